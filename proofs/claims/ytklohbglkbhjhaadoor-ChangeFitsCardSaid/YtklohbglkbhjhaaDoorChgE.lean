
import Derived.Test.YtklohbglkbhjhaaDoorRowsM
import Derived.Test.YtklohbglkbhjhaaDoorBase
import Derived.Shelf.Spec.SlicesInsert
import Derived.Lib.Overlaps
import Derived.Lib.AppendZerosOnto
import Derived.WalkKit
import Derived.Laws.OwnMore
import Derived.Laws.BytesArg
import Derived.Laws.Rows
import Derived.Deep.AppendLies
import Derived.Deep.Draws
import Derived.Test.YtklohbglkbhjhaaDoorChecked
import Derived.Deep.OwnRows
import Derived.Lib.Hide
import Derived.Deep.Quiet
import Derived.Laws.AppendOwnNone
import Derived.Lib.Strings
import Derived.Outline
import Derived.WalkLawsBesides
import Derived.WalkSpells
import Derived.PlainAid
import Derived.Deep.QuietTactic
import Derived.BigQuiet
import Derived.RegionTactic
import Derived.BigRegion
import Derived.Handy
import Derived.Laws.BitsAllLaws
import Derived.Deep.RegionWith
import Derived.Lib.AppendStr
import Derived.Deep.RegionLaw
import Derived.Maps.AppendAt
import Derived.OpenShut
import Derived.WideShapes
import Derived.ChangeArms
import Derived.Deep.Slices
import Derived.Sort.Grow
import Derived.Lib.SliceRun
import Derived.OrdersHeld
import Derived.LaidEql
import Derived.Stop.Asserts
import Derived.RowKitTokens
import Derived.Laws.BitsLemmas
import Derived.Laws.Bits64
import Derived.WalkSmall
import Derived.Stop.IfaceNil
import Derived.Lib.Bytealg
import Derived.Deep.SlicePairs
import Derived.Shelf.Abstract
/- slices.Insert (of one, in the middle) at rows of values. -/




namespace Go.Proofs.YtklohbglkbhjhaaDoor
open Go.RowKit
set_option linter.unusedVariables false

theorem run_copy_k {P : Program} (w : World) (dT sT ty elem : TypeId) (size b o dLen dCap : Nat) (a : Addr) (sLen sCap m : Nat) (cs : List Value)
    (hu : P.underlying dT = some (.slice elem)) (hs : (P.info? elem).map (·.size) = some size) (hm : Nat.min sLen dLen = m) (hn : cs.length = m * size)
    (hsrc : ∀ j v, cs[j]? = some v → w.cell? (a.add j) = some v) (hc : ∀ j, j < cs.length → (w.cell? ⟨b, o + j, none⟩).isSome = true) (hf : ∀ j, j < cs.length → w.frozen? ⟨b, o + j, none⟩ = false) (h1 : ∀ v ∈ cs, v.oneCell' = true) :
    (Builtin.copy_ #[dT, sT] ty #[.slice (some ⟨b, o, none⟩) dLen dCap, .slice (some a) sLen sCap]).run P w = .ok (goInt m) (w.setCells b o cs) := by
  have hl := run_loadCells_list (P := P) w a cs hsrc
  have hst := run_storeCells_cells (P := P) b o cs 0 w (by simpa using hc) (by simpa using hf) h1
  cases hq : P.info? elem with
  | none => simp [hq] at hs
  | some i =>
    have hi : i.size = size := by simpa [hq] using hs
    simp [Builtin.copy_, run_underlying hu, Builtin.lenOf, Builtin.firstCells, sizeOf, typeInfo, hq, hi, hm, ← hn, hl, hst]
/-- The row with one more. -/
def insL (l : List Val3) (i : Nat) (x : Val3) : List Val3 := l.take i ++ x :: l.drop i
theorem insL_len (l : List Val3) (i : Nat) (x : Val3) : (insL l i x).length = l.length + 1 := by
  unfold insL
  rw [List.length_append, List.length_cons, List.length_take, List.length_drop]; omega
theorem fl_ins (l : List Val3) (i : Nat) (x : Val3) : fl (insL l i x) = fl (l.take i) ++ encV x ++ fl (l.drop i) := by
  unfold insL
  rw [fl_append, List.append_assoc]; rfl
theorem ins_room (xs : List Val3) (i : Nat) (x : Val3) (ys : List Value) (hi : i ≤ xs.length) (hy : ys.length = (xs.length + 1) * 3) (ht : ys.take (i * 3) = fl (xs.take i)) :
    setL (setL ys ((i + 1) * 3) (fl (xs.drop i))) (i * 3) (encV x) = fl (insL xs i x) := by
  have hd : (fl (xs.drop i)).length = (xs.length - i) * 3 := by rw [fl_length, List.length_drop]
  have e1 : setL ys ((i + 1) * 3) (fl (xs.drop i)) = ys.take ((i + 1) * 3) ++ fl (xs.drop i) := by
    have e0 : ys.drop ((i + 1) * 3 + (fl (xs.drop i)).length) = [] := List.drop_eq_nil_of_le (by rw [hd, hy]; omega)
    rw [setL_eq _ _ _ (by rw [hd, hy]; omega), e0, List.append_nil]
  rw [e1, setL_eq _ _ _ (by rw [encV_len, List.length_append, List.length_take, hd, hy]; omega), encV_len, fl_ins]
  rw [List.take_append_of_le_length (by rw [List.length_take, hy]; omega), List.take_take, Nat.min_eq_left (by omega), ht]
  rw [List.drop_append, List.drop_eq_nil_of_le (by rw [List.length_take, hy]; omega), List.nil_append, List.length_take, hy, show i * 3 + 3 - min ((i + 1) * 3) ((xs.length + 1) * 3) = 0 by omega, List.drop_zero]
theorem ins_grow (xs : List Val3) (i : Nat) (x : Val3) (ys : List Value) (hi : i ≤ xs.length) (hy : ys.length = (xs.length + 1) * 3) (ht : ys.take (i * 3) = fl (xs.take i)) :
    setL (setL ys (i * 3) (encV x)) ((i + 1) * 3) (fl (xs.drop i)) = fl (insL xs i x) := by
  have hd : (fl (xs.drop i)).length = (xs.length - i) * 3 := by rw [fl_length, List.length_drop]
  have e1 : setL ys (i * 3) (encV x) = fl (xs.take i) ++ encV x ++ ys.drop (i * 3 + 3) := by
    rw [setL_eq _ _ _ (by rw [encV_len, hy]; omega), encV_len, ht]
  have h3 : (fl (xs.take i) ++ encV x).length = (i + 1) * 3 := by rw [List.length_append, fl_length, List.length_take, encV_len]; omega
  rw [e1, setL_eq _ _ _ (by rw [hd, List.length_append, h3, List.length_drop, hy]; omega), fl_ins]
  have e0 : (fl (xs.take i) ++ encV x ++ ys.drop (i * 3 + 3)).drop ((i + 1) * 3 + (fl (xs.drop i)).length) = [] := List.drop_eq_nil_of_le (by rw [hd, List.length_append, h3, List.length_drop, hy]; omega)
  rw [e0, List.append_nil, List.take_append_of_le_length (by omega), List.take_of_length_le (by omega)]
theorem grown_new {a b c : World} {r : Option Nat} {h : Nat} (x : a.grownBy b r) (y : b.grownBy c (some h)) (hh : a.heap.size ≤ h) : a.grownBy c r :=
  ⟨y.os.trans x.os, y.tape.trans x.tape, y.output.trans x.output, Nat.le_trans x.size y.size, fun i hi hne => (y.block i (Nat.lt_of_lt_of_le hi x.size) (by intro e; injection e with e; omega)).trans (x.block i hi hne)⟩
/-- A row with one element of its room more. -/
theorem own_more {w : World} {base : Nat} {e : TypeId} {size n cap g : Nat} {xs : List Value} (h : w.ownsRow base e size (.slice (some ⟨g, 0, none⟩) n cap) n xs) (hr : n + 1 ≤ cap) :
    ∃ ys, w.ownsRow base e size (.slice (some ⟨g, 0, none⟩) (n + 1) cap) (n + 1) ys ∧ ys.take (n * size) = xs ∧ ys.length = (n + 1) * size ∧ w.shape? g = some (e, cap * size) := by
  rcases h.2 with ⟨hv, _⟩ | ⟨g', c, cur, hv, hb, hg, hnc, hcm, hcs, ht⟩
  · cases hv
  · injection hv with e1 e2 e3
    injection e1 with e1
    injection e1 with e1
    subst e1 e3
    have hle : (n + 1) * size ≤ cap * size := Nat.mul_le_mul_right _ hr
    have hl : (cur.toList.take ((n + 1) * size)).length = (n + 1) * size := by rw [List.length_take, Array.length_toList, hcs]; omega
    refine ⟨cur.toList.take ((n + 1) * size), ⟨hl, .inr ⟨g, cap, cur, rfl, hb, hg, hr, hcm, hcs, rfl⟩⟩, ?_, hl, ?_⟩
    · rw [List.take_take, Nat.min_eq_left (Nat.mul_le_mul_right _ (by omega)), ht]
    · unfold World.shape?; rw [hg, ← hcs]

set_option maxRecDepth 100000 in
set_option maxHeartbeats 4000000 in
theorem insert_room (base g n c i b vc : Nat) (z : Int) (xs : List Val3) (x : Val3) (w : World) (ho : w.ownsRow base 29 3 (.slice (some ⟨g, 0, none⟩) n c) n (fl xs)) (hn : n = xs.length) (hz : z = (i : Int)) (hi : i < n) (hl : n ≤ 1000) (hv : Blk w b (encV x).toArray 29) (hbg : b ≠ g) (hb : base ≤ w.heap.size) (hroom : n + 1 ≤ c) :
    Calls Tryd.prog 72 #[.slice (some ⟨g, 0, none⟩) n c, .int .i64 z, .slice (some ⟨b, 0, none⟩) 1 vc] w (InsP (insL xs i x) base g w) := by
  subst hz
  obtain ⟨hnc, hcm, hbg', hgl, hcell⟩ := own_capG ho
  have hm : c ≤ 9223372036854775807 := by unfold maxLen at hcm; omega
  obtain ⟨ys, hys, hyt, hyl, hshape⟩ := own_more ho hroom
  have hsz : (Tryd.prog.info? 29).map (·.size) = some 3 := by
    obtain ⟨i0, hi0, h0, h1, h2⟩ := info_parts info_v
    rw [hi0]; simp [h1]
  have hyx : ys.take (i * 3) = fl (xs.take i) := by rw [fl_take, ← hyt, List.take_take, Nat.min_eq_left (by omega)]
  have hov : ∀ lb cb, (callFunc 84 #[.slice (some ⟨b, 0, none⟩) 1 vc, .slice (some ⟨g, (i + 1) * 3, none⟩) lb cb]).run Tryd.prog w = .ok (.value (.bool false)) w := fun lb cb => by
    rw [run_callFunc_extern Tryd.func84 (by kernel_rfl) (by kernel_rfl) (by kernel_rfl) (e := Extern.SlicesOverlaps.overlaps #[32, 32] #[4]) (by kernel_rfl),
      Lib.run_overlaps_apart w 32 4 29 Tryd.underlying32 3 Tryd.sizeOf29 ⟨b, 0, none⟩ ⟨g, (i + 1) * 3, none⟩ 1 vc lb cb hbg 29 29 3 (c * 3) (by unfold World.shape?; rw [show w.heap[b]? = _ from hv]; rfl) hshape (by omega) (hv.frozen 0) (hv.frozen 3)]
    rfl
  have hdl : (fl (xs.drop i)).length = (n - i) * 3 := by rw [fl_length, List.length_drop, hn]
  have hcp1 : ∀ ty dc sc, (Builtin.copy_ #[33, 33] ty #[.slice (some ⟨g, (i + 1) * 3, none⟩) (n + 1 - (i + 1)) dc, .slice (some ⟨g, i * 3, none⟩) (n + 1 - i) sc]).run Tryd.prog w.drew = .ok (goInt ((n - i : Nat) : Int)) (w.drew.setCells g ((i + 1) * 3) (fl (xs.drop i))) := fun ty dc sc =>
    run_copy_k w.drew _ _ ty 29 3 g ((i + 1) * 3) (n + 1 - (i + 1)) dc ⟨g, i * 3, none⟩ (n + 1 - i) sc (n - i) (fl (xs.drop i)) Tryd.underlying33 hsz (by simp only [Nat.min_def]; split <;> omega) hdl
      (fun j v hj => by
        rw [add_plain]
        have hj2 := (List.getElem?_eq_some_iff.1 hj).1
        have h2 := ho.cellAt (i * 3 + j) (by omega)
        show w.cell? _ = _
        rw [h2, ← hj, fl_drop, List.getElem?_drop])
      (fun j hj => hcell _ (by omega)) (fun j hj => ho.frozenAt _) (fl_one _)
  obtain ⟨W1, hW1⟩ : ∃ W1, W1 = w.drew.setCells g ((i + 1) * 3) (fl (xs.drop i)) := ⟨_, rfl⟩
  obtain ⟨o1, g1⟩ := own_setCells (size := 3) (fl (xs.drop i)) ((i + 1) * 3) ys w.drew hys
  rw [← hW1] at o1 g1 hcp1
  have hb1 : Blk W1 b (encV x).toArray 29 := (g1.block b hv.lt (by intro e; injection e with e; exact hbg e)).trans hv
  have hcp2 : ∀ ty dc, (Builtin.copy_ #[33, 32] ty #[.slice (some ⟨g, i * 3, none⟩) (n + 1 - i) dc, .slice (some ⟨b, 0, none⟩) 1 vc]).run Tryd.prog W1 = .ok (goInt 1) (W1.setCells g (i * 3) (encV x)) := fun ty dc =>
    run_copy_k W1 _ _ ty 29 3 g (i * 3) (n + 1 - i) dc ⟨b, 0, none⟩ 1 vc 1 (encV x) Tryd.underlying33 hsz (by simp only [Nat.min_def]; split <;> omega) rfl
      (fun j v hj => by
        rw [add_plain, Nat.zero_add]
        exact hb1.cell j v (by rw [List.getElem?_toArray]; exact hj))
      (fun j hj => (own_capG o1).2.2.2.2 _ (by rw [encV_len] at hj; omega)) (fun j hj => o1.frozenAt _) (by simp [encV, Value.oneCell'])
  obtain ⟨o2, g2⟩ := own_setCells (size := 3) (encV x) (i * 3) _ W1 o1
  rw [ins_room xs i x ys (by omega) (by rw [hyl, hn]) hyx] at o2
  have HFIN := Lib.hid (show InsP (insL xs i x) base g w (.returned (.slice (some ⟨g, 0, none⟩) (n + 1) c)) (W1.setCells g (i * 3) (encV x)) from ⟨g, c, by rw [insL_len, hn], by rw [insL_len, ← hn]; exact o2, only_trans (only_trans (only_drew (World.grownBy.refl _ _)) g1) g2⟩)
  have h1 : ¬ ((i : Int) = (n : Int)) := by omega
  have h2 : ¬ (c < n + 1) := by omega
  have h3 : i ≤ n := by omega
  have h4 : i + 1 ≤ n + 1 := by omega
  have h5 : ¬ c = i := by omega
  have h6 : ¬ c = i + 1 := by omega
  have h7 : ¬ ((c : Int) < (n : Int) + 1) := by omega
  have hw1 : IntKind.i64.wrap ((n : Int) + 1) = (n : Int) + 1 := IntWalk.i64_in _ ⟨by omega, by omega⟩
  have hw2 : IntKind.i64.wrap ((i : Int) + 1) = (i : Int) + 1 := IntWalk.i64_in _ ⟨by omega, by omega⟩
  have h8 : 0 ≤ (i : Int) + 1 := by omega
  have h9 : (i : Int) + 1 ≤ (n : Int) + 1 := by omega
  have h10 : (i : Int) ≤ (n : Int) + 1 := by omega
  have h11 : ((i : Int) == (n : Int)) = false := by simp; omega
  clear hyt hyl hshape hsz hyx hdl o1 g1 hb1 o2 g2 hys ho hv hcell hn hW1
  go_enter Tryd.func72, Tryd.ntmps72
  go_wp2_with (simp only [hov])
  go_region_law (refine step_copy_runI rfl (.tmp 73) (.tmp 76) 33 33 rfl (.slice (some ⟨g, (i + 1) * 3, none⟩) (n + 1 - (i + 1)) (c - (i + 1))) (.slice (some ⟨g, i * 3, none⟩) (n + 1 - i) (c - i)) (by simp [Act.eval, Act.put]) (by simp [Act.eval, Act.put]) (hcp1 _ _ _) ?_)
  go_wp2_with (at_builtin; refine wpList_copy_runI _ rfl (.tmp 80) (.tmp 81) 33 32 rfl _ _ rfl rfl (hcp2 _ _) ?_)
  go_ret
  exact HFIN.out

set_option maxRecDepth 100000 in
set_option maxHeartbeats 4000000 in
theorem insert_grow (base g n c i b vc : Nat) (z : Int) (xs : List Val3) (x : Val3) (w : World) (ho : w.ownsRow base 29 3 (.slice (some ⟨g, 0, none⟩) n c) n (fl xs)) (hn : n = xs.length) (hz : z = (i : Int)) (hi : i < n) (hl : n ≤ 1000) (hv : Blk w b (encV x).toArray 29) (hb : base ≤ w.heap.size) (hroom : ¬ n + 1 ≤ c) :
    Calls Tryd.prog 72 #[.slice (some ⟨g, 0, none⟩) n c, .int .i64 z, .slice (some ⟨b, 0, none⟩) 1 vc] w (InsP (insL xs i x) base g w) := by
  subst hz
  obtain ⟨hnc, hcm, hbg', hgl, hcell⟩ := own_capG ho
  have hm : c ≤ 9223372036854775807 := by unfold maxLen at hcm; omega
  obtain rfl : c = n := by omega
  obtain ⟨i0, hi0, hz0, hzs, hzb⟩ := info_parts info_v
  have hsz : (Tryd.prog.info? 29).map (·.size) = some 3 := by rw [hi0]; simp [hzs]
  have hkk : (c : Int) + 1 - (i : Int) = ((c + 1 - i : Nat) : Int) := by omega
  have hik : i + (c + 1 - i) = c + 1 := by omega
  have htl : (fl (xs.take i)).length = i * 3 := by rw [fl_length, List.length_take]; omega
  have hold : (Builtin.firstCells i0.size i (.slice (some ⟨g, 0, none⟩) i c)).run Tryd.prog w.drew = .ok (fl (xs.take i)).toArray w.drew := by
    rw [hzs]
    exact run_firstCells_some w.drew 3 i ⟨g, 0, none⟩ i c (fl (xs.take i)) htl (fun j v hj => by
      have hj2 := (List.getElem?_eq_some_iff.1 hj).1
      rw [add_plain, Nat.zero_add]
      have h2 := ho.cellAt j (by omega)
      show w.cell? _ = _
      rw [h2, ← hj, fl_take, List.getElem?_take, if_pos (by omega)])
  obtain ⟨G, hG⟩ : ∃ G, G = grownCap w (c + 1) c 29 := ⟨_, rfl⟩
  have hGn : c + 1 ≤ G := by rw [hG]; exact grownCap_ge w _ _ _
  have hGm : G ≤ maxLen := by
    have := grownCap_le_maxLen w (c + 1) c 29 (by unfold maxLen; omega)
    rw [← hG] at this
    exact this
  have hG63 : G ≤ 9223372036854775807 := by unfold maxLen at hGm; omega
  obtain ⟨ROW, hROW⟩ : ∃ ROW : Array Value, ROW = (fl (xs.take i)).toArray ++ Builtin.zeroCells (vagg 0 0 ⟨#[]⟩).cells (c + 1 - i) ++ Builtin.zeroCells (vagg 0 0 ⟨#[]⟩).cells (G - (c + 1)) := ⟨_, rfl⟩
  have hrz : ∀ ty, (Builtin.append_ #[33, 3] ty #[.slice (some ⟨g, 0, none⟩) i c, .int .i64 ((c : Int) + 1 - (i : Int))]).run Tryd.prog w =
      .ok (.slice (some ⟨w.heap.size, 0, none⟩) (c + 1) G) (w.drew.alloc (.cells ROW 29)) := fun ty => by
    have h := Lib.run_append_grow_zeros w 33 3 ty 29 i0 _ .i64 .i64 Tryd.underlying33 Tryd.underlying3 hi0 hz0 (some ⟨g, 0, none⟩) i c (fl (xs.take i)) hold (c + 1 - i) (by omega) (by omega) (by omega) (by omega) (by rw [hzb]; omega) (by rw [hzb, hik]; exact growslice_fits (by omega) (by omega))
    rw [hik, ← hG, ← hROW] at h
    rw [hkk]
    exact h
  have hRs : ROW.size = G * 3 := by
    rw [hROW]
    simp [Builtin.zeroCells, Value.cells, htl]
    omega
  have hRt : ROW.toList.take (i * 3) = fl (xs.take i) := by
    rw [hROW]
    simp only [Array.toList_append, List.append_assoc]
    rw [List.take_left' htl]
  obtain ⟨h0, hh0⟩ : ∃ x, w.heap.size = x := ⟨_, rfl⟩
  obtain ⟨W1, hW1⟩ : ∃ W1, W1 = w.drew.alloc (.cells ROW 29) := ⟨_, rfl⟩
  have hg1 : w.grownBy W1 (some g) := by rw [hW1]; exact only_alloc (only_drew (World.grownBy.refl _ _)) _
  have hl1 : Later w W1 := by rw [hW1]; exact (Later.refl w).drew.alloc _
  have hys : W1.ownsRow base 29 3 (.slice (some ⟨h0, 0, none⟩) (c + 1) G) (c + 1) (ROW.toList.take ((c + 1) * 3)) := by
    refine ⟨by rw [List.length_take, Array.length_toList, hRs]; omega, .inr ⟨h0, G, ROW, rfl, by omega, ?_, hGn, hGm, hRs, rfl⟩⟩
    rw [hW1, ← hh0]; exact heap_alloc_new w.drew _
  have hyl : (ROW.toList.take ((c + 1) * 3)).length = (xs.length + 1) * 3 := by rw [List.length_take, Array.length_toList, hRs, ← hn]; omega
  have hyx : (ROW.toList.take ((c + 1) * 3)).take (i * 3) = fl (xs.take i) := by rw [List.take_take, Nat.min_eq_left (by omega), hRt]
  have hcpA : ∀ ty dc, (Builtin.copy_ #[33, 32] ty #[.slice (some ⟨h0, i * 3, none⟩) (c + 1 - i) dc, .slice (some ⟨b, 0, none⟩) 1 vc]).run Tryd.prog W1 = .ok (goInt 1) (W1.setCells h0 (i * 3) (encV x)) := fun ty dc =>
    run_copy_k W1 _ _ ty 29 3 h0 (i * 3) (c + 1 - i) dc ⟨b, 0, none⟩ 1 vc 1 (encV x) Tryd.underlying33 hsz (by simp only [Nat.min_def]; split <;> omega) rfl
      (fun j v hj => by
        rw [add_plain, Nat.zero_add]
        exact (hv.later hl1).cell j v (by rw [List.getElem?_toArray]; exact hj))
      (fun j hj => (own_capG hys).2.2.2.2 _ (by rw [encV_len] at hj; omega)) (fun j hj => hys.frozenAt _) (by simp [encV, Value.oneCell'])
  obtain ⟨o1, g1⟩ := own_setCells (size := 3) (encV x) (i * 3) _ W1 hys
  obtain ⟨W2, hW2⟩ : ∃ W2, W2 = W1.setCells h0 (i * 3) (encV x) := ⟨_, rfl⟩
  rw [← hW2] at o1 g1 hcpA
  have hdl : (fl (xs.drop i)).length = (c - i) * 3 := by rw [fl_length, List.length_drop, hn]
  have hgh : g ≠ h0 := by omega
  have hcpB : ∀ ty dc sc, (Builtin.copy_ #[33, 33] ty #[.slice (some ⟨h0, (i + 1) * 3, none⟩) (c + 1 - (i + 1)) dc, .slice (some ⟨g, i * 3, none⟩) (c - i) sc]).run Tryd.prog W2.drew = .ok (goInt ((c - i : Nat) : Int)) (W2.drew.setCells h0 ((i + 1) * 3) (fl (xs.drop i))) := fun ty dc sc =>
    run_copy_k W2.drew _ _ ty 29 3 h0 ((i + 1) * 3) (c + 1 - (i + 1)) dc ⟨g, i * 3, none⟩ (c - i) sc (c - i) (fl (xs.drop i)) Tryd.underlying33 hsz (by simp only [Nat.min_def]; split <;> omega) hdl
      (fun j v hj => by
        rw [add_plain]
        have hj2 := (List.getElem?_eq_some_iff.1 hj).1
        have h2 := ho.cellAt (i * 3 + j) (by omega)
        have h3 : w.cell? ⟨g, i * 3 + j, none⟩ = some v := by rw [h2, ← hj, fl_drop, List.getElem?_drop]
        show W2.cell? _ = _
        rw [cell_block (g1.block g (Nat.lt_of_lt_of_le hgl hl1.size) (by intro e; injection e with e; exact hgh e))]
        exact hl1.cell h3)
      (fun j hj => (own_capG o1).2.2.2.2 _ (by omega)) (fun j hj => o1.frozenAt _) (fl_one _)
  obtain ⟨o2, g2⟩ := own_setCells (size := 3) (fl (xs.drop i)) ((i + 1) * 3) _ W2.drew o1
  rw [ins_grow xs i x _ (by omega) hyl hyx] at o2
  have hgz : w.grownBy (W2.drew.setCells h0 ((i + 1) * 3) (fl (xs.drop i))) (some g) :=
     grown_new (grown_new hg1 g1 (by omega)) (only_trans (only_drew (World.grownBy.refl _ _)) g2) (by omega)
  have HFIN := Lib.hid (show InsP (insL xs i x) base g w (.returned (.slice (some ⟨h0, 0, none⟩) (c + 1) G)) (W2.drew.setCells h0 ((i + 1) * 3) (fl (xs.drop i))) from ⟨h0, G, by rw [insL_len, hn], by rw [insL_len, ← hn]; exact o2, hgz⟩)
  have h1 : ¬ ((i : Int) = (c : Int)) := by omega
  have h3 : i ≤ c := by omega
  have h5 : ¬ c = i := by omega
  have h6 : ¬ G = i := by omega
  have h6b : ¬ G = i + 1 := by omega
  have h7 : (c : Int) < (c : Int) + 1 := by omega
  have hw1 : IntKind.i64.wrap ((c : Int) + 1) = (c : Int) + 1 := IntWalk.i64_in _ ⟨by omega, by omega⟩
  have hw2 : IntKind.i64.wrap ((i : Int) + 1) = (i : Int) + 1 := IntWalk.i64_in _ ⟨by omega, by omega⟩
  have hw3 : IntKind.i64.wrap ((c : Int) + 1 - (i : Int)) = (c : Int) + 1 - (i : Int) := IntWalk.i64_in _ ⟨by omega, by omega⟩
  have h8 : 0 ≤ (i : Int) + 1 := by omega
  have h9 : (i : Int) + 1 ≤ (c : Int) + 1 := by omega
  have h10 : (i : Int) ≤ (c : Int) + 1 := by omega
  have h11 : ((i : Int) == (c : Int)) = false := by simp; omega
  have h12 : i ≤ c + 1 := by omega
  rw [← hW1] at hrz
  rw [hh0] at hrz
  clear hold hG hROW hRs hRt hg1 hl1 hys hyl hyx o1 g1 hdl o2 g2 hgz htl hsz ho hv hcell hn hW1 hkk hik hW2 hz0 hzs hzb
  go_enter Tryd.func72, Tryd.ntmps72
  go_wp2_with (first
    | (at_builtin; refine Lib.wpList_append_run _ rfl (.tmp 34) (.tmp 39) 33 3 rfl _ _ rfl rfl _ _ (hrz _) ?_)
    | (at_builtin; refine wpList_copy_runI _ rfl (.tmp 43) (.tmp 44) 33 32 rfl _ _ rfl rfl (hcpA _ _) ?_))
  go_region_law (refine step_copy_runI rfl (.tmp 50) (.tmp 53) 33 33 rfl (.slice (some ⟨h0, (i + 1) * 3, none⟩) (c + 1 - (i + 1)) (G - (i + 1))) (.slice (some ⟨g, i * 3, none⟩) (c - i) (c - i)) (by simp [Act.eval, Act.put]) (by simp [Act.eval, Act.put]) (hcpB _ _ _) ?_)
  go_wp2_with fail
  go_ret
  exact HFIN.out

theorem insert_mid (base g n c i b vc : Nat) (z : Int) (xs : List Val3) (x : Val3) (w : World) (ho : w.ownsRow base 29 3 (.slice (some ⟨g, 0, none⟩) n c) n (fl xs)) (hn : n = xs.length) (hz : z = (i : Int)) (hi : i < n) (hl : n ≤ 1000) (hv : Blk w b (encV x).toArray 29) (hbg : b ≠ g) (hb : base ≤ w.heap.size) :
    Calls Tryd.prog 72 #[.slice (some ⟨g, 0, none⟩) n c, .int .i64 z, .slice (some ⟨b, 0, none⟩) 1 vc] w (InsP (insL xs i x) base g w) := by
  by_cases h : n + 1 ≤ c
  · exact insert_room base g n c i b vc z xs x w ho hn hz hi hl hv hbg hb h
  · exact insert_grow base g n c i b vc z xs x w ho hn hz hi hl hv hb h
end Go.Proofs.YtklohbglkbhjhaaDoor

/- schema.Find: first, and its closure. -/


namespace Go.Proofs.YtklohbglkbhjhaaDoor
open Go.RowKit
set_option linter.unusedVariables false

theorem str_beq (a b : ByteArray) : (a.toList == b.toList) = decide (a = b) := by
  by_cases h : a = b
  · subst h; simp
  · rw [bytes_ne h]; simp [h]

/-- A place, and whether there is one. -/
def FoundP (o : Option Nat) (w : World) (e : Ending) (w' : World) : Prop := e = .returned (.tuple #[.int .i64 ((o.getD 0 : Nat) : Int), .bool o.isSome]) ∧ Later w w'

end Go.Proofs.YtklohbglkbhjhaaDoor

/- value.check, May under the three sentinels that they name; fault.Of. -/


namespace Go.Proofs.YtklohbglkbhjhaaDoor
open Go.RowKit
set_option linter.unusedVariables false

/-- The three sentinels that value.check names. -/
structure S3 (w : World) : Prop where
  value : CSent w 5
  bound : CSent w 6
  type : CSent w 7
theorem S3.later {w w' : World} (h : S3 w) (l : Later w w') : S3 w' := ⟨h.value.later l, h.bound.later l, h.type.later l⟩
def CheckP (t i : Int) (n : Nat) (w : World) (e : Ending) (w' : World) : Prop :=
  ((MayV t i n ∧ e = .returned .nilIface) ∨ (¬ MayV t i n ∧ ∃ p, e = .returned (.iface 112 (.pointer (some p))))) ∧ Later w w'

set_option maxRecDepth 100000 in
set_option maxHeartbeats 1000000 in
theorem check3_any (t i : Int) (s : ByteArray) (w : World) (hs : S3 w) :
    Calls Tryd.prog 82 #[.agg #[.int .i64 t, .int .i64 i, .string s]] w (CheckP t i s.size w) := by
  obtain ⟨a2, h2⟩ := hs.value
  obtain ⟨a3, h3⟩ := hs.bound
  obtain ⟨a4, h4⟩ := hs.type
  have g2 : 5 < w.heap.size := block_lt_of_cell h2
  have g3 : 6 < w.heap.size := block_lt_of_cell h3
  have g4 : 7 < w.heap.size := block_lt_of_cell h4
  clear hs
  have HE1 := Lib.hid (fun o : Obj => Later.new w o)
  have HE2 := Lib.hid (fun o o' : Obj => (Later.new w o).alloc o')
  by_cases hz : s.size = 0
  · have hse : s.toList.isEmpty = true := by
      rw [Lib.toList_data]; cases s with | mk d => simpa [ByteArray.size] using hz
    go_enter Tryd.func82, Tryd.ntmps82
    (go_wp2_with (go_at_call 60; refine (at_any _ _ _ _ _ rfl).mono ?_; rintro e w' ⟨rfl, rfl⟩))
    all_goals go_ret
    all_goals simp only [bne_iff_ne, ne_eq, bne_eq_false_iff_eq, beq_iff_eq, beq_eq_false_iff_ne] at *
    all_goals first
      | exact ⟨.inl ⟨by unfold MayV; omega, rfl⟩, HE1.out _⟩
      | exact ⟨.inr ⟨by unfold MayV; omega, _, rfl⟩, HE2.out _ _⟩
  · have hse : s.toList.isEmpty = false := by
      rw [Lib.toList_data]; cases s with | mk d => simpa [ByteArray.size] using hz
    go_enter Tryd.func82, Tryd.ntmps82
    (go_wp2_with (go_at_call 60; refine (at_any _ _ _ _ _ rfl).mono ?_; rintro e w' ⟨rfl, rfl⟩))
    all_goals go_ret
    all_goals simp only [bne_iff_ne, ne_eq, bne_eq_false_iff_eq, beq_iff_eq, beq_eq_false_iff_ne] at *
    all_goals first
      | exact ⟨.inl ⟨by unfold MayV; omega, rfl⟩, HE1.out _⟩
      | exact ⟨.inr ⟨by unfold MayV; omega, _, rfl⟩, HE2.out _ _⟩

set_option maxRecDepth 100000 in
theorem may3_any (t i : Int) (s : ByteArray) (w : World) (hs : S3 w) :
    Calls Tryd.prog 65 #[.agg #[.int .i64 t, .int .i64 i, .string s]] w (TellsP (MayV t i s.size) w) := by
  obtain ⟨w1, hw1⟩ : ∃ w1 : World, w.alloc (.cells #[.int .i64 t, .int .i64 i, .string s] 29) = w1 := ⟨_, rfl⟩
  have b1 : Later w w1 := hw1 ▸ Later.new w _
  have HC := Lib.hid (check3_any t i s w1 (hs.later b1))
  have HB := Lib.hid b1
  have HW := Lib.hid hw1
  clear hs hw1 b1
  go_enter Tryd.func65, Tryd.ntmps65
  go_wp2_with fail
  rw [HW.out]
  refine HC.out.mono ?_
  rintro e w2 ⟨h, b2⟩
  have HB2 := Lib.hid (HB.out.trans b2)
  clear b2
  rcases h with ⟨hm, rfl⟩ | ⟨hm, p, rfl⟩
  · have HM := Lib.hid hm
    clear hm
    go_wp2_with fail
    go_ret
    exact TellsP.t HM.out HB2.out
  · have HM := Lib.hid hm
    have hif : Tryd.prog.isIface 80 = true := by kernel_rfl
    have heq := run_eql_iface_nil (P := Tryd.prog) (w := w2) 80 hif 112 (.pointer (some p))
    clear hm
    go_wp2_with fail
    go_ret
    exact TellsP.f HM.out HB2.out

end Go.Proofs.YtklohbglkbhjhaaDoor

/- schema.ByID: first, and its closure; schema.Fits, value.Fits. -/



namespace Go.Proofs.YtklohbglkbhjhaaDoor
open Go.RowKit
set_option linter.unusedVariables false

/-- The closure of ByID: is it of that ID? -/
theorem byID1_any (x : Int) (s : ByteArray) (t : Int) (id : Int) (q : Addr) (w : World) (hc : w.cell? q = some (.int .i64 id)) :
    Calls Tryd.prog 53 #[cagg x s t, .pointer (some q)] w fun e w' => e = .returned (.bool (decide (x = id))) ∧ Later w w' := by
  have l1 : Later w (w.alloc (.cells #[.int .i64 x, .string s, .int .i64 t] 59)) := Later.new w _
  have hc1 := l1.cell hc
  have HE := Lib.hid (show (x == id) = decide (x = id) from by by_cases h : x = id <;> simp [h])
  have HL := Lib.hid l1
  clear l1 hc
  go_enter Tryd.func53, Tryd.ntmps53
  go_wp2_with fail
  go_ret
  rw [HE.out]
  exact ⟨rfl, HL.out⟩

set_option maxRecDepth 100000 in
set_option maxHeartbeats 1000000 in
theorem firstByID_any (A : Option Addr) (n c : Nat) (last : Int) (l : List Col3) (id : Int) (q : Addr) (w : World) (hn : n = l.length) (hl : n ≤ 100000) (hr : Has w A (fc l)) (hc : CellIs w q (.int .i64 id)) :
    Calls Tryd.prog 51 #[.agg #[.slice A n c, .int .i64 last], .func (.func 53) #[] #[.pointer (some q)]] w (FoundP (findI l id) w) := by
  have eg : ∀ args w, (callFunc 53 args).run Tryd.prog w = .ok (.enter 53 args) w := enters_of Tryd.func53 (by kernel_rfl) rfl
  have l1 : Later w (w.alloc (.cells #[.slice A n c, .int .i64 last] 24)) := Later.new w _
  have HL1 := Lib.hid l1
  have HN := Lib.hid hn
  clear l1 hn
  go_enter Tryd.func51, Tryd.ntmps51
  go_wp2_with fail
  go_loopw [11] (fun i wr => ∃ k : Nat, k ≤ n ∧ i = .int .i64 k ∧ (∀ j (hj : j < l.length), j < k → decide (l[j].1 = id) = false) ∧ Later w wr) (fun i _ => n - (intOf i).toNat)
  case atStart => exact ⟨0, Nat.zero_le _, rfl, fun j hj h => absurd h (Nat.not_lt_zero _), HL1.out⟩
  case round =>
    obtain ⟨k, hk, rfl, hb, lat⟩ := hrel
    by_cases hlt : k < n
    · have hkl : k < l.length := by have := HN.out; omega
      obtain ⟨b, off, rfl, c0, c1, c2⟩ := (hr.later lat).col3 k hkl
      have HB := Lib.hid hb
      have HR := Lib.hid hr
      have HY := Lib.hid (fun (h : decide (l[k].1 = id) = true) => show findI l id = some k from firstAt hkl h hb)
      have HM := Lib.hid (fun (h : decide (l[k].1 = id) = false) => show ∀ j (hj : j < l.length), j < k + 1 → decide (l[j].1 = id) = false from fun j hj hjk => by
        rcases Nat.lt_or_ge j k with h1 | h1
        · exact hb j hj h1
        · obtain rfl : j = k := by omega
          exact h)
      generalize l[k].1 = x at c0 HY HM
      generalize l[k].2.1 = s at c1
      generalize l[k].2.2 = t at c2
      have l2 : Later w (wr.alloc (.cells #[.int .i64 x, .string s, .int .i64 t] 59)) := lat.alloc _
      have HC := Lib.hid (byID1_any x s t id q _ (hc.later l2).out)
      have HL2 := Lib.hid l2
      clear lat l2 hb hr hc
      go_wp2_with fail
      refine HC.out.mono ?_
      rintro e wX ⟨rfl, lX⟩
      have HLX := Lib.hid (HL2.out.trans lX)
      clear lX HC HL2
      by_cases he : x = id
      · have hd : decide (x = id) = true := by simpa using he
        have HF := Lib.hid (HY.out hd)
        clear he HY HM
        go_wp2_with fail
        go_ret2
        unfold FoundP
        rw [HF.out]
        exact ⟨rfl, HLX.out⟩
      · have hd : decide (x = id) = false := by simpa using he
        have HF := Lib.hid (HM.out hd)
        clear he HY HM
        go_wp2_with fail
        go_roundw
        case rel => exact ⟨k + 1, hlt, by go_num, HF.out, HLX.out⟩
        case measure => simp [intOf]; omega
    · have HF := Lib.hid (show findI l id = none from firstNo fun i hi => hb i hi (by have := HN.out; omega))
      clear hb
      go_wp2_with fail
      go_ret2
      unfold FoundP
      rw [HF.out]
      exact ⟨rfl, lat⟩

theorem byID_any (A : Option Addr) (n c : Nat) (last : Int) (l : List Col3) (id : Int) (w : World) (hn : n = l.length) (hl : n ≤ 100000) (hr : Has w A (fc l)) :
    Calls Tryd.prog 24 #[.agg #[.slice A n c, .int .i64 last], .int .i64 id] w (FoundP (findI l id) w) := by
  have hmf : ∀ (fn : Fn) (first cap : Array Value) (w : World), (Instr.makeFunc fn first cap).run Tryd.prog w = .ok (.func fn first cap) w := fun _ _ _ _ => rfl
  obtain ⟨w1, hw1⟩ : ∃ x : World, (w.alloc (.cells #[.slice A n c, .int .i64 last] 24)).alloc (.cells #[.int .i64 id] 3) = x := ⟨_, rfl⟩
  have l1 : Later w w1 := hw1 ▸ (Later.new w _).alloc _
  have b1 : CellIs w1 ⟨w.heap.size + 1, 0, none⟩ (.int .i64 id) := hw1 ▸ CellIs.new _ _ _ _ _ _ (by simp) rfl
  have b0 : CellIs w1 ⟨w.heap.size, 0, none⟩ (.slice A n c) := hw1 ▸ (CellIs.new w _ _ _ _ _ rfl rfl).later (Later.new _ _)
  have b2 : CellIs w1 ⟨w.heap.size, 1, none⟩ (.int .i64 last) := hw1 ▸ (CellIs.new w _ _ _ _ _ rfl rfl).later (Later.new _ _)
  have HC := Lib.hid (firstByID_any A n c last l id ⟨w.heap.size + 1, 0, none⟩ w1 hn hl (hr.later l1) b1)
  have HL := Lib.hid l1
  have HW := Lib.hid hw1
  clear l1 b1 hw1 hn hr
  have e0 := b0.out
  have e2 := b2.out
  clear b0 b2
  go_enter Tryd.func24, Tryd.ntmps24
  go_wp2_with fail
  rw [HW.out]
  refine HC.out.mono ?_
  rintro e w2 ⟨rfl, l2⟩
  have HL2 := Lib.hid (HL.out.trans l2)
  clear l2 HC
  go_wp2_with fail
  go_ret2
  exact ⟨rfl, HL2.out⟩
/-- May a value stand in a column of type t. -/
def FitsV (t : Int) (x : Val3) : Prop := (1 ≤ t ∧ t ≤ 4) ∧ (x.1 = 0 ∨ x.1 = t) ∧ MayV x.1 x.2.1 x.2.2.size

set_option maxRecDepth 100000 in
theorem valFits_any (t x0 x1 : Int) (x2 : ByteArray) (w : World) (hs : S3 w) :
    Calls Tryd.prog 54 #[.int .i64 t, .agg #[.int .i64 x0, .int .i64 x1, .string x2]] w (TellsP (FitsV t (x0, x1, x2)) w) := by
  obtain ⟨w1, hw1⟩ : ∃ w1 : World, w.alloc (.cells #[.int .i64 x0, .int .i64 x1, .string x2] 29) = w1 := ⟨_, rfl⟩
  have l1 : Later w w1 := hw1 ▸ Later.new w _
  have hb : Blk w1 w.heap.size #[.int .i64 x0, .int .i64 x1, .string x2] 29 := hw1 ▸ Blk.new w _ _ _ rfl
  have HC := Lib.hid (may3_any x0 x1 x2 w1 (hs.later l1))
  have HL1 := Lib.hid l1
  have HW := Lib.hid hw1
  clear hs l1 hw1
  by_cases h1 : t < 1
  · have HN := Lib.hid (show ¬ FitsV t (x0, x1, x2) from fun h => by have := h.1; omega)
    go_enter Tryd.func54, Tryd.ntmps54
    go_wp2_with fail
    go_ret
    rw [HW.out]
    exact TellsP.f HN.out HL1.out
  · by_cases h2 : 4 < t
    · have HN := Lib.hid (show ¬ FitsV t (x0, x1, x2) from fun h => by have := h.1; omega)
      go_enter Tryd.func54, Tryd.ntmps54
      go_wp2_with fail
      go_ret
      rw [HW.out]
      exact TellsP.f HN.out HL1.out
    · have a0 := hb.cell 0 _ rfl
      have a1 := hb.cell 1 _ rfl
      have a2 := hb.cell 2 _ rfl
      by_cases h3 : x0 = 0
      · have HY := Lib.hid (show MayV x0 x1 x2.size ↔ FitsV t (x0, x1, x2) from ⟨fun h => ⟨by omega, .inl h3, h⟩, fun h => h.2.2⟩)
        subst h3
        clear hb
        go_enter Tryd.func54, Tryd.ntmps54
        go_wp2_with fail
        rw [HW.out]
        refine HC.out.mono ?_
        rintro e w2 ⟨r, hr, rfl, l2⟩
        have HP := Lib.hid (show TellsP (FitsV t (0, x1, x2)) w (.returned (.bool r)) w2 from ⟨r, hr.trans HY.out, rfl, HL1.out.trans l2⟩)
        clear hr l2 HC HY a0 a1 a2
        go_wp2_with fail
        go_ret
        exact HP.out
      · have hx0 : (x0 == 0) = false := by simp [h3]
        by_cases h4 : x0 = t
        · have HY := Lib.hid (show MayV x0 x1 x2.size ↔ FitsV t (x0, x1, x2) from ⟨fun h => ⟨by omega, .inr h4, h⟩, fun h => h.2.2⟩)
          subst h4
          clear hb h3
          go_enter Tryd.func54, Tryd.ntmps54
          go_wp2_with fail
          rw [HW.out]
          refine HC.out.mono ?_
          rintro e w2 ⟨r, hr, rfl, l2⟩
          have HP := Lib.hid (show TellsP (FitsV x0 (x0, x1, x2)) w (.returned (.bool r)) w2 from ⟨r, hr.trans HY.out, rfl, HL1.out.trans l2⟩)
          clear hr l2 HC HY a0 a1 a2
          go_wp2_with fail
          go_ret
          exact HP.out
        · have HN := Lib.hid (show ¬ FitsV t (x0, x1, x2) from fun h => by have := h.2.1; dsimp only at this; omega)
          have hx1 : (x0 == t) = false := by simp [h4]
          clear hb h3 h4
          go_enter Tryd.func54, Tryd.ntmps54
          go_wp2_with fail
          go_ret
          rw [HW.out]
          exact TellsP.f HN.out HL1.out
/-- Is it a row of the columns? -/
def FitsL (xs : List Col3) (r : List Val3) : Prop := r.length = xs.length ∧ ∀ i (h : i < xs.length) (h' : i < r.length), FitsV xs[i].2.2 r[i]

set_option maxRecDepth 100000 in
set_option maxHeartbeats 2000000 in
theorem schFits_any (V R : Option Addr) (vn vc rn rc : Nat) (last : Int) (xs : List Col3) (r : List Val3) (w : World) (hs : S3 w) (hvn : vn = xs.length) (hrn : rn = r.length) (hl : vn ≤ 1000) (hl2 : rn ≤ 1000) (hV : Has w V (fc xs)) (hR : Has w R (fl r)) :
    Calls Tryd.prog 26 #[.agg #[.slice V vn vc, .int .i64 last], .slice R rn rc] w (TellsP (FitsL xs r) w) := by
  have HS := Lib.hid hs
  have HVN := Lib.hid hvn
  have HRN := Lib.hid hrn
  have HV := Lib.hid hV
  have HR := Lib.hid hR
  have HL1 := Lib.hid (Later.new w (.cells #[.slice V vn vc, .int .i64 last] 24))
  clear hs hV hR
  by_cases hne : rn = vn
  · have hnn : ((rn : Int) != (vn : Int)) = false := by simp [hne]
    clear hvn hrn
    go_enter Tryd.func26, Tryd.ntmps26
    go_wp2_with fail
    go_loopw [16] (fun i wr => ∃ k : Nat, k ≤ vn ∧ i = .int .i64 k ∧ (∀ j (h : j < xs.length) (h' : j < r.length), j < k → FitsV xs[j].2.2 r[j]) ∧ Later w wr) (fun i _ => vn - (intOf i).toNat)
    case atStart => exact ⟨0, Nat.zero_le _, rfl, fun j h h' hj => absurd hj (Nat.not_lt_zero _), HL1.out⟩
    case round =>
      obtain ⟨k, hk, rfl, hall, lat⟩ := hrel
      have HALL := Lib.hid hall
      clear hall
      by_cases hlt : k < vn
      · have hkx : k < xs.length := by have := HVN.out; omega
        have hkr : k < r.length := by have := HRN.out; omega
        obtain ⟨vb, vo, rfl, c0, c1, c2⟩ := (HV.out.later lat).col3 k hkx
        obtain ⟨b, off, rfl, u0, u1, u2⟩ := (HR.out.later lat).val3 k hkr
        have HST := Lib.hid (fun (h : FitsV xs[k].2.2 r[k]) => show ∀ j (h : j < xs.length) (h' : j < r.length), j < k + 1 → FitsV xs[j].2.2 r[j] from fun j h1 h2 hj => by
          rcases Nat.lt_or_ge j k with h3 | h3
          · exact HALL.out j h1 h2 h3
          · obtain rfl : j = k := by omega
            exact h)
        have HNO := Lib.hid (fun (h : ¬ FitsV xs[k].2.2 r[k]) => show ¬ FitsL xs r from fun hf => h (hf.2 k hkx hkr))
        generalize xs[k].1 = cid at c0
        generalize xs[k].2.1 = cnm at c1
        generalize xs[k].2.2 = ty at c2 HST HNO
        generalize r[k] = x at u0 u1 u2 HST HNO
        obtain ⟨x0, x1, x2⟩ := x
        dsimp only at u0 u1 u2
        obtain ⟨g, hg⟩ : ∃ x, wr.heap.size = x := ⟨_, rfl⟩
        obtain ⟨wa, hwa⟩ : ∃ x, wr.alloc (.cells #[.int .i64 cid, .string cnm, .int .i64 ty] 59) = x := ⟨_, rfl⟩
        have la : Later wr wa := hwa ▸ Later.new _ _
        have hba : Blk wa g #[.int .i64 cid, .string cnm, .int .i64 ty] 59 := hwa ▸ Blk.new wr _ _ _ hg.symm
        have HLA := Lib.hid (lat.trans la)
        have e2 := hba.cell 2 _ rfl
        have v0 := la.cell u0
        have v1 := la.cell u1
        have v2 := la.cell u2
        have HWA := Lib.hid hwa
        have hkr2 : (k : Int) < (rn : Int) := by omega
        clear la hba lat u0 u1 u2 hwa
        go_wp2_with fail
        rw [HWA.out]
        clear c0 c1 c2
        refine wp_region_K (S := fun W : World => W.cell? ⟨g, 2, none⟩ = some (.int .i64 ty) ∧ W.cell? ⟨b, off + k * 3, none⟩ = some (.int .i64 x0) ∧ W.cell? ⟨b, off + k * 3 + 1, none⟩ = some (.int .i64 x1) ∧ W.cell? ⟨b, off + k * 3 + 2, none⟩ = some (.string x2)) (R := fun a b => a = b) (fun _ => rfl) (by kernel_rfl) ?_
        obtain ⟨wd, hwd⟩ : ∃ x, wa.drew = x := ⟨_, rfl⟩
        have ld : Later wa wd := hwd ▸ (Later.refl wa).drew
        have hS : (fun W : World => W.cell? ⟨g, 2, none⟩ = some (.int .i64 ty) ∧ W.cell? ⟨b, off + k * 3, none⟩ = some (.int .i64 x0) ∧ W.cell? ⟨b, off + k * 3 + 1, none⟩ = some (.int .i64 x1) ∧ W.cell? ⟨b, off + k * 3 + 2, none⟩ = some (.string x2)) wd := ⟨ld.cell e2, ld.cell v0, ld.cell v1, ld.cell v2⟩
        rw [hwd]
        have HLD := Lib.hid (HLA.out.trans ld)
        have HC := Lib.hid (valFits_any ty x0 x1 x2 wd (HS.out.later HLD.out))
        clear ld hwd e2 v0 v1 v2 hg HWA
        refine wpAnyK_take (fun _ => rfl) (fun _ _ _ h k => h.trans k) (fun _ _ h k => k ▸ h) (i := 0) (oi := { dst := some 21, op := _, type := _, pos := _, after := _, guard := _ }) (v := ?_) rfl (by kernel_rfl) (by kernel_rfl) (by kernel_rfl) (fun _ _ _ h => h) (Or.inl (Or.inl ⟨by rfl, ?_⟩)) hS ?_
        rotate_left
        focus ((intro w hSw; (try dsimp only at hSw); obtain ⟨d0, d1, d2, d3⟩ := hSw; go_simp); (try with_reducible rfl))
        intro wq hwq
        subst hwq
        (try simp only [Act.put, List.setIfInBounds_toArray, List.set_cons_zero, List.set_cons_succ])
        refine wpAnyK_take (fun _ => rfl) (fun _ _ _ h k => h.trans k) (fun _ _ h k => k ▸ h) (i := 1) (oi := { dst := some 22, op := _, type := _, pos := _, after := _, guard := _ }) (v := ?_) rfl (by kernel_rfl) (by kernel_rfl) (by kernel_rfl) (fun _ _ _ h => h) (Or.inl (Or.inl ⟨by rfl, ?_⟩)) hS ?_
        rotate_left
        focus ((intro w hSw; (try dsimp only at hSw); obtain ⟨d0, d1, d2, d3⟩ := hSw; go_simp); (try with_reducible rfl))
        intro wq hwq
        subst hwq
        (try simp only [Act.put, List.setIfInBounds_toArray, List.set_cons_zero, List.set_cons_succ])
        refine wpAnyK_take (fun _ => rfl) (fun _ _ _ h k => h.trans k) (fun _ _ h k => k ▸ h) (i := 2) (oi := { dst := some 23, op := _, type := _, pos := _, after := _, guard := _ }) (v := ?_) rfl (by kernel_rfl) (by kernel_rfl) (by kernel_rfl) (fun _ _ _ h => h) (Or.inl (Or.inl ⟨by rfl, ?_⟩)) hS ?_
        rotate_left
        focus ((intro w hSw; (try dsimp only at hSw); obtain ⟨d0, d1, d2, d3⟩ := hSw; go_simp); (try with_reducible rfl))
        intro wq hwq
        subst hwq
        (try simp only [Act.put, List.setIfInBounds_toArray, List.set_cons_zero, List.set_cons_succ])
        refine wpAnyK_take (fun _ => rfl) (fun _ _ _ h k => h.trans k) (fun _ _ h k => k ▸ h) (i := 3) (oi := { dst := some 24, op := _, type := _, pos := _, after := _, guard := _ }) (v := ?_) rfl (by kernel_rfl) (by kernel_rfl) (by kernel_rfl) (fun _ _ _ h => h) (Or.inl (Or.inl ⟨by rfl, ?_⟩)) hS ?_
        rotate_left
        focus ((intro w hSw; (try dsimp only at hSw); obtain ⟨d0, d1, d2, d3⟩ := hSw; go_simp); (try with_reducible rfl))
        intro wq hwq
        subst hwq
        (try simp only [Act.put, List.setIfInBounds_toArray, List.set_cons_zero, List.set_cons_succ])
        refine wpAnyK_take (fun _ => rfl) (fun _ _ _ h k => h.trans k) (fun _ _ h k => k ▸ h) (i := 4) (oi := { dst := some 25, op := _, type := _, pos := _, after := _, guard := _ }) (v := ?_) rfl (by kernel_rfl) (by kernel_rfl) (by kernel_rfl) (fun _ _ _ h => h) (Or.inl (Or.inl ⟨by rfl, ?_⟩)) hS ?_
        rotate_left
        focus ((intro w hSw; (try dsimp only at hSw); obtain ⟨d0, d1, d2, d3⟩ := hSw; go_simp); (try with_reducible rfl))
        intro wq hwq
        subst hwq
        (try simp only [Act.put, List.setIfInBounds_toArray, List.set_cons_zero, List.set_cons_succ])
        refine wpAnyK_take (fun _ => rfl) (fun _ _ _ h k => h.trans k) (fun _ _ h k => k ▸ h) (i := 5) (oi := { dst := some 26, op := _, type := _, pos := _, after := _, guard := _ }) (v := ?_) rfl (by kernel_rfl) (by kernel_rfl) (by kernel_rfl) (fun _ _ _ h => h) (Or.inl (Or.inl ⟨by rfl, ?_⟩)) hS ?_
        rotate_left
        focus ((intro w hSw; (try dsimp only at hSw); obtain ⟨d0, d1, d2, d3⟩ := hSw; go_simp); (try with_reducible rfl))
        intro wq hwq
        subst hwq
        (try simp only [Act.put, List.setIfInBounds_toArray, List.set_cons_zero, List.set_cons_succ])
        refine wpAnyK_all (rs := [6]) (by kernel_rfl) (by simp) (fun i hi => ?_)
        simp only [List.mem_cons, List.not_mem_nil, or_false] at hi
        subst hi
        refine stepK (o := { dst := some 27, op := _, type := _, pos := _, after := _, guard := _ }) rfl (fun K hK => ?_)
        go_simp
        refine HC.out.mono ?_
        rintro e w2 ⟨q, hq, rfl, l2⟩
        replace hS : (fun W : World => W.cell? ⟨g, 2, none⟩ = some (.int .i64 ty) ∧ W.cell? ⟨b, off + k * 3, none⟩ = some (.int .i64 x0) ∧ W.cell? ⟨b, off + k * 3 + 1, none⟩ = some (.int .i64 x1) ∧ W.cell? ⟨b, off + k * 3 + 2, none⟩ = some (.string x2)) w2 := ⟨l2.cell hS.1, l2.cell hS.2.1, l2.cell hS.2.2.1, l2.cell hS.2.2.2⟩
        refine hK _ _ hS fun wq hwq => ?_
        subst hwq
        have HL2 := Lib.hid (HLD.out.trans l2)
        have HQ := Lib.hid hq
        clear hK l2 HC HLD hq
        (try simp only [Act.put, List.setIfInBounds_toArray, List.set_cons_zero, List.set_cons_succ])
        refine wpAnyK_take (fun _ => rfl) (fun _ _ _ h k => h.trans k) (fun _ _ h k => k ▸ h) (i := 7) (oi := { dst := some 28, op := _, type := _, pos := _, after := _, guard := _ }) (v := ?_) rfl (by kernel_rfl) (by kernel_rfl) (by kernel_rfl) (fun _ _ _ h => h) (Or.inl (Or.inl ⟨by rfl, ?_⟩)) hS ?_
        rotate_left
        focus ((intro w hSw; (try dsimp only at hSw); obtain ⟨d0, d1, d2, d3⟩ := hSw; go_simp); (try with_reducible rfl))
        intro wq hwq
        subst hwq
        (try simp only [Act.put, List.setIfInBounds_toArray, List.set_cons_zero, List.set_cons_succ])
        refine wpAnyK_done (by kernel_rfl) ?_ _
        clear hS
        cases q with
        | true =>
          have HX := Lib.hid (HST.out (HQ.out.1 rfl))
          go_wp2_with fail
          go_roundw
          all_goals first
            | exact ⟨k + 1, hlt, by go_num, HX.out, HL2.out⟩
            | exact ⟨_, _, _, _, ⟨k + 1, hlt, by go_num, HX.out, HL2.out⟩, rfl, rfl, rfl, rfl⟩
            | (simp [intOf]; omega)
            | trace_state
        | false =>
          have HX := Lib.hid (HNO.out fun h => by have := HQ.out.2 h; cases this)
          go_wp2_with fail
          go_ret
          exact TellsP.f HX.out HL2.out
      · have HX := Lib.hid (show FitsL xs r from ⟨by rw [← HRN.out, ← HVN.out, hne], fun j h h' => HALL.out j h h' (by have := HVN.out; omega)⟩)
        go_wp2_with fail
        go_ret
        exact TellsP.t HX.out lat
  · have hnn : ((rn : Int) != (vn : Int)) = true := by simp; omega
    have HX := Lib.hid (show ¬ FitsL xs r from fun h => hne (by rw [hrn, hvn]; exact h.1))
    clear hvn hrn
    go_enter Tryd.func26, Tryd.ntmps26
    go_wp2_with fail
    go_ret
    exact TellsP.f HX.out HL1.out
end Go.Proofs.YtklohbglkbhjhaaDoor

/- What schemas and their changes come to: mathematics. -/

namespace Go.Proofs.YtklohbglkbhjhaaDoor
open Go.RowKit
set_option linter.unusedVariables false

/-- May a text be a column's name. -/
def NameL (s : ByteArray) : Prop := (∀ i (h : i < s.size), 33 ≤ s[i].toNat ∧ s[i].toNat ≤ 126) ∧ 1 ≤ s.size ∧ s.size ≤ 12
instance (s : ByteArray) : Decidable (NameL s) := inferInstanceAs (Decidable (_ ∧ _))
def TypL (t : Int) : Prop := 1 ≤ t ∧ t ≤ 4
instance (t : Int) : Decidable (TypL t) := inferInstanceAs (Decidable (_ ∧ _))
def EncL (e : Int) : Prop := 1 ≤ e ∧ e ≤ 5
instance (t : Int) : Decidable (EncL t) := inferInstanceAs (Decidable (_ ∧ _))
instance (t i : Int) (n : Nat) : Decidable (MayV t i n) := inferInstanceAs (Decidable (_ ∨ _))
instance (t : Int) (x : Val3) : Decidable (FitsV t x) := inferInstanceAs (Decidable (_ ∧ _))
/-- A column of a schema, by itself. -/
def ColL (last : Int) (x : Col3) : Prop := (1 ≤ x.1 ∧ x.1 ≤ last) ∧ NameL x.2.1 ∧ TypL x.2.2
instance (last : Int) (x : Col3) : Decidable (ColL last x) := inferInstanceAs (Decidable (_ ∧ _))
/-- A column of a schema: none ahead of it has its ID or its name. -/
def ColS (l : List Col3) (last : Int) (i : Nat) (x : Col3) : Prop := ColL last x ∧ findI l x.1 = some i ∧ findC l x.2.1 = some i
instance (l : List Col3) (last : Int) (i : Nat) (x : Col3) : Decidable (ColS l last i x) := inferInstanceAs (Decidable (_ ∧ _))
def MayS (l : List Col3) (last : Int) : Prop := (1 ≤ l.length ∧ l.length ≤ 6) ∧ last ≤ 10000 ∧ ∀ i (h : i < l.length), ColS l last i l[i]
instance (l : List Col3) (last : Int) : Decidable (MayS l last) := inferInstanceAs (Decidable (_ ∧ _))
theorem findI_lt {l : List Col3} {id : Int} {k : Nat} (h : findI l id = some k) : ∃ hk : k < l.length, l[k].1 = id := by
  unfold findI at h
  rw [List.findIdx?_eq_some_iff_getElem] at h
  obtain ⟨hk, h1, _⟩ := h
  exact ⟨hk, by simpa using h1⟩
/-- A layout: sorted by, parted by, parts, encodings. -/
structure Lay4 where
  sb : Int
  pb : Int
  parts : Int
  enc : List Int
deriving DecidableEq
/-- A change. -/
structure Chg where
  kind : Int
  col : Int
  name : ByteArray
  typ : Int
  val : Val3
  sep : Int
  num : Int
def MayLy (l : List Col3) (m : Lay4) : Prop :=
  (m.sb = 0 ∨ (findI l m.sb).isSome = true) ∧ (1 ≤ m.parts ∧ m.parts ≤ 4) ∧ ((findI l m.pb).isSome = true ∨ m.pb = 0 ∧ m.parts = 1) ∧ (∀ e ∈ m.enc, EncL e) ∧ m.enc.length = l.length
instance (l : List Col3) (m : Lay4) : Decidable (MayLy l m) := inferInstanceAs (Decidable (_ ∧ _))
/-- What a change makes of columns, their last ID, a layout. -/
abbrev St3 := List Col3 × Int × Lay4
/-- A list with one more. -/
def insA {α : Type} (l : List α) (i : Nat) (x : α) : List α := l.take i ++ x :: l.drop i
theorem insA_len {α : Type} (l : List α) (i : Nat) (x : α) : (insA l i x).length = l.length + 1 := by
  unfold insA
  rw [List.length_append, List.length_cons, List.length_take, List.length_drop]; omega
/-- Add, at a place. -/
def addM (s : St3) (c : Chg) (typ : Int) (val : Val3) (at_ : Nat) : Except Int St3 :=
  if ¬ (NameL c.name ∧ TypL typ) then .error 1
  else if (findC s.1 c.name).isSome = true then .error 9
  else if ¬ FitsV typ val then .error 4
  else if 6 ≤ s.1.length ∨ 10000 ≤ s.2.1 then .error 6
  else .ok (insA s.1 at_ (s.2.1 + 1, c.name, typ), s.2.1 + 1, { s.2.2 with enc := insA s.2.2.enc at_ 1 })
def heldM (s : St3) (c : Chg) : Prop := c.col = s.2.2.sb ∨ c.col = s.2.2.pb
instance (s : St3) (c : Chg) : Decidable (heldM s c) := inferInstanceAs (Decidable (_ ∨ _))
def dropM (s : St3) (c : Chg) (at_ : Nat) : Except Int St3 :=
  if s.1.length = 1 ∨ heldM s c then .error 1
  else .ok (s.1.eraseIdx at_, s.2.1, { s.2.2 with enc := s.2.2.enc.eraseIdx at_ })
/-- The column at a place, with another name, or another type. -/
def nameAt (l : List Col3) (i : Nat) (nm : ByteArray) : List Col3 := l.modify i fun x => (x.1, nm, x.2.2)
def typeAt (l : List Col3) (i : Nat) (t : Int) : List Col3 := l.modify i fun x => (x.1, x.2.1, t)
def renameM (s : St3) (c : Chg) (at_ : Nat) : Except Int St3 :=
  if ¬ NameL c.name then .error 1
  else if (findC s.1 c.name).isSome = true ∧ findC s.1 c.name ≠ some at_ then .error 9
  else .ok (nameAt s.1 at_ c.name, s.2)
def typOf (l : List Col3) (i : Nat) : Int := (l.getD i (0, ⟨#[]⟩, 0)).2.2
def widenM (s : St3) (at_ : Nat) : Except Int St3 :=
  if typOf s.1 at_ = 3 then .ok (typeAt s.1 at_ 1, s.2)
  else if typOf s.1 at_ = 1 then .ok (typeAt s.1 at_ 2, s.2)
  else .error 4
def splitM (s : St3) (c : Chg) (at_ : Nat) : Except Int St3 :=
  if typOf s.1 at_ ≠ 4 then .error 4
  else if heldM s c then .error 1
  else addM s c 4 (0, 0, ⟨#[]⟩) (at_ + 1)
def recodeM (s : St3) (c : Chg) (at_ : Nat) : Except Int St3 :=
  if ¬ EncL c.num then .error 1
  else .ok (s.1, s.2.1, { s.2.2 with enc := s.2.2.enc.set at_ c.num })
def resortM (s : St3) (c : Chg) : Except Int St3 :=
  if c.col ≠ 0 ∧ (findI s.1 c.col).isSome = false then .error 3
  else .ok (s.1, s.2.1, { s.2.2 with sb := c.col })
def repartM (s : St3) (c : Chg) : Except Int St3 :=
  if c.num < 1 ∨ 4 < c.num then .error 1
  else if (findI s.1 c.col).isSome = false ∧ (c.col ≠ 0 ∨ c.num ≠ 1) then .error 3
  else .ok (s.1, s.2.1, { s.2.2 with pb := c.col, parts := c.num })
def changeM (s : St3) (c : Chg) : Except Int St3 :=
  if c.kind = 1 then addM s c c.typ c.val s.1.length
  else if c.kind = 6 then resortM s c
  else if c.kind = 7 then repartM s c
  else if c.kind = 8 then .ok s
  else if c.kind = 2 ∨ c.kind = 3 ∨ c.kind = 4 ∨ c.kind = 5 ∨ c.kind = 9 then
    match findI s.1 c.col with
    | none => .error 3
    | some i => if c.kind = 2 then dropM s c i else if c.kind = 3 then renameM s c i else if c.kind = 4 then widenM s i else if c.kind = 5 then splitM s c i else recodeM s c i
  else .error 1
/-- Apply. -/
def applyM (s : St3) (c : Chg) : Except Int St3 := if MayS s.1 s.2.1 ∧ MayLy s.1 s.2.2 then changeM s c else .error 1
end Go.Proofs.YtklohbglkbhjhaaDoor
