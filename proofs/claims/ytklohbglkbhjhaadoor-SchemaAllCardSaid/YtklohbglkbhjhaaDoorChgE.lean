/- slices.Insert (of one, in the middle) at rows of values. -/
import Derived.Test.YtklohbglkbhjhaaDoorChgD
import Derived.Shelf.Spec.SlicesInsert
import Derived.Lib.Overlaps
import Derived.Lib.AppendZerosOnto
namespace Go.Proofs.YtklohbglkbhjhaaDoor
open Go.RowKit
set_option linter.unusedVariables false

theorem run_copy_k {P : Program} (w : World) (dT sT ty elem : TypeId) (size b o dLen dCap : Nat) (a : Addr) (sLen sCap m : Nat) (cs : List Value)
    (hu : P.underlying dT = some (.slice elem)) (hs : (P.info? elem).map (·.size) = some size) (hm : Nat.min sLen dLen = m) (hn : cs.length = m * size)
    (hsrc : ∀ j v, cs[j]? = some v → w.cell? (a.add j) = some v) (hc : ∀ j, j < cs.length → (w.cell? ⟨b, o + j, none⟩).isSome = true) (hf : ∀ j, j < cs.length → w.frozen? ⟨b, o + j, none⟩ = false) (h1 : ∀ v ∈ cs, v.oneCell' = true) :
    (Builtin.copy_ #[dT, sT] ty #[.slice (some ⟨b, o, none⟩) dLen dCap, .slice (some a) sLen sCap]).run P w = .ok (goInt m) (w.setCells b o cs) := by
  have hl := run_loadCells_list (P := P) w a cs hsrc
  have hst := run_storeCells_cells (P := P) b o cs 0 w (by simpa using hc) (by simpa using hf) h1
  cases hq : P.info? elem with
  | none => simp [hq] at hs
  | some i =>
    have hi : i.size = size := by simpa [hq] using hs
    simp [Builtin.copy_, run_underlying hu, Builtin.lenOf, Builtin.firstCells, sizeOf, typeInfo, hq, hi, hm, ← hn, hl, hst]
/-- The row with one more. -/
def insL (l : List Val3) (i : Nat) (x : Val3) : List Val3 := l.take i ++ x :: l.drop i
theorem insL_len (l : List Val3) (i : Nat) (x : Val3) : (insL l i x).length = l.length + 1 := by
  unfold insL
  rw [List.length_append, List.length_cons, List.length_take, List.length_drop]; omega
theorem fl_ins (l : List Val3) (i : Nat) (x : Val3) : fl (insL l i x) = fl (l.take i) ++ encV x ++ fl (l.drop i) := by
  unfold insL
  rw [fl_append, List.append_assoc]; rfl
theorem ins_room (xs : List Val3) (i : Nat) (x : Val3) (ys : List Value) (hi : i ≤ xs.length) (hy : ys.length = (xs.length + 1) * 3) (ht : ys.take (i * 3) = fl (xs.take i)) :
    setL (setL ys ((i + 1) * 3) (fl (xs.drop i))) (i * 3) (encV x) = fl (insL xs i x) := by
  have hd : (fl (xs.drop i)).length = (xs.length - i) * 3 := by rw [fl_length, List.length_drop]
  have e1 : setL ys ((i + 1) * 3) (fl (xs.drop i)) = ys.take ((i + 1) * 3) ++ fl (xs.drop i) := by
    have e0 : ys.drop ((i + 1) * 3 + (fl (xs.drop i)).length) = [] := List.drop_eq_nil_of_le (by rw [hd, hy]; omega)
    rw [setL_eq _ _ _ (by rw [hd, hy]; omega), e0, List.append_nil]
  rw [e1, setL_eq _ _ _ (by rw [encV_len, List.length_append, List.length_take, hd, hy]; omega), encV_len, fl_ins]
  rw [List.take_append_of_le_length (by rw [List.length_take, hy]; omega), List.take_take, Nat.min_eq_left (by omega), ht]
  rw [List.drop_append, List.drop_eq_nil_of_le (by rw [List.length_take, hy]; omega), List.nil_append, List.length_take, hy, show i * 3 + 3 - min ((i + 1) * 3) ((xs.length + 1) * 3) = 0 by omega, List.drop_zero]
theorem ins_grow (xs : List Val3) (i : Nat) (x : Val3) (ys : List Value) (hi : i ≤ xs.length) (hy : ys.length = (xs.length + 1) * 3) (ht : ys.take (i * 3) = fl (xs.take i)) :
    setL (setL ys (i * 3) (encV x)) ((i + 1) * 3) (fl (xs.drop i)) = fl (insL xs i x) := by
  have hd : (fl (xs.drop i)).length = (xs.length - i) * 3 := by rw [fl_length, List.length_drop]
  have e1 : setL ys (i * 3) (encV x) = fl (xs.take i) ++ encV x ++ ys.drop (i * 3 + 3) := by
    rw [setL_eq _ _ _ (by rw [encV_len, hy]; omega), encV_len, ht]
  have h3 : (fl (xs.take i) ++ encV x).length = (i + 1) * 3 := by rw [List.length_append, fl_length, List.length_take, encV_len]; omega
  rw [e1, setL_eq _ _ _ (by rw [hd, List.length_append, h3, List.length_drop, hy]; omega), fl_ins]
  have e0 : (fl (xs.take i) ++ encV x ++ ys.drop (i * 3 + 3)).drop ((i + 1) * 3 + (fl (xs.drop i)).length) = [] := List.drop_eq_nil_of_le (by rw [hd, List.length_append, h3, List.length_drop, hy]; omega)
  rw [e0, List.append_nil, List.take_append_of_le_length (by omega), List.take_of_length_le (by omega)]
theorem grown_new {a b c : World} {r : Option Nat} {h : Nat} (x : a.grownBy b r) (y : b.grownBy c (some h)) (hh : a.heap.size ≤ h) : a.grownBy c r :=
  ⟨y.os.trans x.os, y.tape.trans x.tape, y.output.trans x.output, Nat.le_trans x.size y.size, fun i hi hne => (y.block i (Nat.lt_of_lt_of_le hi x.size) (by intro e; injection e with e; omega)).trans (x.block i hi hne)⟩
/-- A row with one element of its room more. -/
theorem own_more {w : World} {base : Nat} {e : TypeId} {size n cap g : Nat} {xs : List Value} (h : w.ownsRow base e size (.slice (some ⟨g, 0, none⟩) n cap) n xs) (hr : n + 1 ≤ cap) :
    ∃ ys, w.ownsRow base e size (.slice (some ⟨g, 0, none⟩) (n + 1) cap) (n + 1) ys ∧ ys.take (n * size) = xs ∧ ys.length = (n + 1) * size ∧ w.shape? g = some (e, cap * size) := by
  rcases h.2 with ⟨hv, _⟩ | ⟨g', c, cur, hv, hb, hg, hnc, hcm, hcs, ht⟩
  · cases hv
  · injection hv with e1 e2 e3
    injection e1 with e1
    injection e1 with e1
    subst e1 e3
    have hle : (n + 1) * size ≤ cap * size := Nat.mul_le_mul_right _ hr
    have hl : (cur.toList.take ((n + 1) * size)).length = (n + 1) * size := by rw [List.length_take, Array.length_toList, hcs]; omega
    refine ⟨cur.toList.take ((n + 1) * size), ⟨hl, .inr ⟨g, cap, cur, rfl, hb, hg, hr, hcm, hcs, rfl⟩⟩, ?_, hl, ?_⟩
    · rw [List.take_take, Nat.min_eq_left (Nat.mul_le_mul_right _ (by omega)), ht]
    · unfold World.shape?; rw [hg, ← hcs]

set_option maxRecDepth 100000 in
set_option maxHeartbeats 4000000 in
theorem insert_room (base g n c i b vc : Nat) (z : Int) (xs : List Val3) (x : Val3) (w : World) (ho : w.ownsRow base 29 3 (.slice (some ⟨g, 0, none⟩) n c) n (fl xs)) (hn : n = xs.length) (hz : z = (i : Int)) (hi : i < n) (hl : n ≤ 1000) (hv : Blk w b (encV x).toArray 29) (hbg : b ≠ g) (hb : base ≤ w.heap.size) (hroom : n + 1 ≤ c) :
    Calls Tryd.prog 72 #[.slice (some ⟨g, 0, none⟩) n c, .int .i64 z, .slice (some ⟨b, 0, none⟩) 1 vc] w (InsP (insL xs i x) base g w) := by
  subst hz
  obtain ⟨hnc, hcm, hbg', hgl, hcell⟩ := own_capG ho
  have hm : c ≤ 9223372036854775807 := by unfold maxLen at hcm; omega
  obtain ⟨ys, hys, hyt, hyl, hshape⟩ := own_more ho hroom
  have hsz : (Tryd.prog.info? 29).map (·.size) = some 3 := by
    obtain ⟨i0, hi0, h0, h1, h2⟩ := info_parts info_v
    rw [hi0]; simp [h1]
  have hyx : ys.take (i * 3) = fl (xs.take i) := by rw [fl_take, ← hyt, List.take_take, Nat.min_eq_left (by omega)]
  have hov : ∀ lb cb, (callFunc 84 #[.slice (some ⟨b, 0, none⟩) 1 vc, .slice (some ⟨g, (i + 1) * 3, none⟩) lb cb]).run Tryd.prog w = .ok (.value (.bool false)) w := fun lb cb => by
    rw [run_callFunc_extern Tryd.func84 (by kernel_rfl) (by kernel_rfl) (by kernel_rfl) (e := Extern.SlicesOverlaps.overlaps #[32, 32] #[4]) (by kernel_rfl),
      Lib.run_overlaps_apart w 32 4 29 Tryd.underlying32 3 Tryd.sizeOf29 ⟨b, 0, none⟩ ⟨g, (i + 1) * 3, none⟩ 1 vc lb cb hbg 29 29 3 (c * 3) (by unfold World.shape?; rw [show w.heap[b]? = _ from hv]; rfl) hshape (by omega) (hv.frozen 0) (hv.frozen 3)]
    rfl
  have hdl : (fl (xs.drop i)).length = (n - i) * 3 := by rw [fl_length, List.length_drop, hn]
  have hcp1 : ∀ ty dc sc, (Builtin.copy_ #[33, 33] ty #[.slice (some ⟨g, (i + 1) * 3, none⟩) (n + 1 - (i + 1)) dc, .slice (some ⟨g, i * 3, none⟩) (n + 1 - i) sc]).run Tryd.prog w.drew = .ok (goInt ((n - i : Nat) : Int)) (w.drew.setCells g ((i + 1) * 3) (fl (xs.drop i))) := fun ty dc sc =>
    run_copy_k w.drew _ _ ty 29 3 g ((i + 1) * 3) (n + 1 - (i + 1)) dc ⟨g, i * 3, none⟩ (n + 1 - i) sc (n - i) (fl (xs.drop i)) Tryd.underlying33 hsz (by simp only [Nat.min_def]; split <;> omega) hdl
      (fun j v hj => by
        rw [add_plain]
        have hj2 := (List.getElem?_eq_some_iff.1 hj).1
        have h2 := ho.cellAt (i * 3 + j) (by omega)
        show w.cell? _ = _
        rw [h2, ← hj, fl_drop, List.getElem?_drop])
      (fun j hj => hcell _ (by omega)) (fun j hj => ho.frozenAt _) (fl_one _)
  obtain ⟨W1, hW1⟩ : ∃ W1, W1 = w.drew.setCells g ((i + 1) * 3) (fl (xs.drop i)) := ⟨_, rfl⟩
  obtain ⟨o1, g1⟩ := own_setCells (size := 3) (fl (xs.drop i)) ((i + 1) * 3) ys w.drew hys
  rw [← hW1] at o1 g1 hcp1
  have hb1 : Blk W1 b (encV x).toArray 29 := (g1.block b hv.lt (by intro e; injection e with e; exact hbg e)).trans hv
  have hcp2 : ∀ ty dc, (Builtin.copy_ #[33, 32] ty #[.slice (some ⟨g, i * 3, none⟩) (n + 1 - i) dc, .slice (some ⟨b, 0, none⟩) 1 vc]).run Tryd.prog W1 = .ok (goInt 1) (W1.setCells g (i * 3) (encV x)) := fun ty dc =>
    run_copy_k W1 _ _ ty 29 3 g (i * 3) (n + 1 - i) dc ⟨b, 0, none⟩ 1 vc 1 (encV x) Tryd.underlying33 hsz (by simp only [Nat.min_def]; split <;> omega) rfl
      (fun j v hj => by
        rw [add_plain, Nat.zero_add]
        exact hb1.cell j v (by rw [List.getElem?_toArray]; exact hj))
      (fun j hj => (own_capG o1).2.2.2.2 _ (by rw [encV_len] at hj; omega)) (fun j hj => o1.frozenAt _) (by simp [encV, Value.oneCell'])
  obtain ⟨o2, g2⟩ := own_setCells (size := 3) (encV x) (i * 3) _ W1 o1
  rw [ins_room xs i x ys (by omega) (by rw [hyl, hn]) hyx] at o2
  have HFIN := Lib.hid (show InsP (insL xs i x) base g w (.returned (.slice (some ⟨g, 0, none⟩) (n + 1) c)) (W1.setCells g (i * 3) (encV x)) from ⟨g, c, by rw [insL_len, hn], by rw [insL_len, ← hn]; exact o2, only_trans (only_trans (only_drew (World.grownBy.refl _ _)) g1) g2⟩)
  have h1 : ¬ ((i : Int) = (n : Int)) := by omega
  have h2 : ¬ (c < n + 1) := by omega
  have h3 : i ≤ n := by omega
  have h4 : i + 1 ≤ n + 1 := by omega
  have h5 : ¬ c = i := by omega
  have h6 : ¬ c = i + 1 := by omega
  have h7 : ¬ ((c : Int) < (n : Int) + 1) := by omega
  have hw1 : IntKind.i64.wrap ((n : Int) + 1) = (n : Int) + 1 := IntWalk.i64_in _ ⟨by omega, by omega⟩
  have hw2 : IntKind.i64.wrap ((i : Int) + 1) = (i : Int) + 1 := IntWalk.i64_in _ ⟨by omega, by omega⟩
  have h8 : 0 ≤ (i : Int) + 1 := by omega
  have h9 : (i : Int) + 1 ≤ (n : Int) + 1 := by omega
  have h10 : (i : Int) ≤ (n : Int) + 1 := by omega
  have h11 : ((i : Int) == (n : Int)) = false := by simp; omega
  clear hyt hyl hshape hsz hyx hdl o1 g1 hb1 o2 g2 hys ho hv hcell hn hW1
  go_enter Tryd.func72, Tryd.ntmps72
  go_wp2_with (simp only [hov])
  go_region_law (refine step_copy_runI rfl (.tmp 73) (.tmp 76) 33 33 rfl (.slice (some ⟨g, (i + 1) * 3, none⟩) (n + 1 - (i + 1)) (c - (i + 1))) (.slice (some ⟨g, i * 3, none⟩) (n + 1 - i) (c - i)) (by simp [Act.eval, Act.put]) (by simp [Act.eval, Act.put]) (hcp1 _ _ _) ?_)
  go_wp2_with (at_builtin; refine wpList_copy_runI _ rfl (.tmp 80) (.tmp 81) 33 32 rfl _ _ rfl rfl (hcp2 _ _) ?_)
  go_ret
  exact HFIN.out

set_option maxRecDepth 100000 in
set_option maxHeartbeats 4000000 in
theorem insert_grow (base g n c i b vc : Nat) (z : Int) (xs : List Val3) (x : Val3) (w : World) (ho : w.ownsRow base 29 3 (.slice (some ⟨g, 0, none⟩) n c) n (fl xs)) (hn : n = xs.length) (hz : z = (i : Int)) (hi : i < n) (hl : n ≤ 1000) (hv : Blk w b (encV x).toArray 29) (hb : base ≤ w.heap.size) (hroom : ¬ n + 1 ≤ c) :
    Calls Tryd.prog 72 #[.slice (some ⟨g, 0, none⟩) n c, .int .i64 z, .slice (some ⟨b, 0, none⟩) 1 vc] w (InsP (insL xs i x) base g w) := by
  subst hz
  obtain ⟨hnc, hcm, hbg', hgl, hcell⟩ := own_capG ho
  have hm : c ≤ 9223372036854775807 := by unfold maxLen at hcm; omega
  obtain rfl : c = n := by omega
  obtain ⟨i0, hi0, hz0, hzs, hzb⟩ := info_parts info_v
  have hsz : (Tryd.prog.info? 29).map (·.size) = some 3 := by rw [hi0]; simp [hzs]
  have hkk : (c : Int) + 1 - (i : Int) = ((c + 1 - i : Nat) : Int) := by omega
  have hik : i + (c + 1 - i) = c + 1 := by omega
  have htl : (fl (xs.take i)).length = i * 3 := by rw [fl_length, List.length_take]; omega
  have hold : (Builtin.firstCells i0.size i (.slice (some ⟨g, 0, none⟩) i c)).run Tryd.prog w.drew = .ok (fl (xs.take i)).toArray w.drew := by
    rw [hzs]
    exact run_firstCells_some w.drew 3 i ⟨g, 0, none⟩ i c (fl (xs.take i)) htl (fun j v hj => by
      have hj2 := (List.getElem?_eq_some_iff.1 hj).1
      rw [add_plain, Nat.zero_add]
      have h2 := ho.cellAt j (by omega)
      show w.cell? _ = _
      rw [h2, ← hj, fl_take, List.getElem?_take, if_pos (by omega)])
  obtain ⟨G, hG⟩ : ∃ G, G = grownCap w (c + 1) c 29 := ⟨_, rfl⟩
  have hGn : c + 1 ≤ G := by rw [hG]; exact grownCap_ge w _ _ _
  have hGm : G ≤ maxLen := by
    have := grownCap_le_maxLen w (c + 1) c 29 (by unfold maxLen; omega)
    rw [← hG] at this
    exact this
  have hG63 : G ≤ 9223372036854775807 := by unfold maxLen at hGm; omega
  obtain ⟨ROW, hROW⟩ : ∃ ROW : Array Value, ROW = (fl (xs.take i)).toArray ++ Builtin.zeroCells (vagg 0 0 ⟨#[]⟩).cells (c + 1 - i) ++ Builtin.zeroCells (vagg 0 0 ⟨#[]⟩).cells (G - (c + 1)) := ⟨_, rfl⟩
  have hrz : ∀ ty, (Builtin.append_ #[33, 3] ty #[.slice (some ⟨g, 0, none⟩) i c, .int .i64 ((c : Int) + 1 - (i : Int))]).run Tryd.prog w =
      .ok (.slice (some ⟨w.heap.size, 0, none⟩) (c + 1) G) (w.drew.alloc (.cells ROW 29)) := fun ty => by
    have h := Lib.run_append_grow_zeros w 33 3 ty 29 i0 _ .i64 .i64 Tryd.underlying33 Tryd.underlying3 hi0 hz0 (some ⟨g, 0, none⟩) i c (fl (xs.take i)) hold (c + 1 - i) (by omega) (by omega) (by omega) (by omega) (by rw [hzb]; omega) (by rw [hzb, hik]; exact growslice_fits (by omega) (by omega))
    rw [hik, ← hG, ← hROW] at h
    rw [hkk]
    exact h
  have hRs : ROW.size = G * 3 := by
    rw [hROW]
    simp [Builtin.zeroCells, Value.cells, htl]
    omega
  have hRt : ROW.toList.take (i * 3) = fl (xs.take i) := by
    rw [hROW]
    simp only [Array.toList_append, List.append_assoc]
    rw [List.take_left' htl]
  obtain ⟨h0, hh0⟩ : ∃ x, w.heap.size = x := ⟨_, rfl⟩
  obtain ⟨W1, hW1⟩ : ∃ W1, W1 = w.drew.alloc (.cells ROW 29) := ⟨_, rfl⟩
  have hg1 : w.grownBy W1 (some g) := by rw [hW1]; exact only_alloc (only_drew (World.grownBy.refl _ _)) _
  have hl1 : Later w W1 := by rw [hW1]; exact (Later.refl w).drew.alloc _
  have hys : W1.ownsRow base 29 3 (.slice (some ⟨h0, 0, none⟩) (c + 1) G) (c + 1) (ROW.toList.take ((c + 1) * 3)) := by
    refine ⟨by rw [List.length_take, Array.length_toList, hRs]; omega, .inr ⟨h0, G, ROW, rfl, by omega, ?_, hGn, hGm, hRs, rfl⟩⟩
    rw [hW1, ← hh0]; exact heap_alloc_new w.drew _
  have hyl : (ROW.toList.take ((c + 1) * 3)).length = (xs.length + 1) * 3 := by rw [List.length_take, Array.length_toList, hRs, ← hn]; omega
  have hyx : (ROW.toList.take ((c + 1) * 3)).take (i * 3) = fl (xs.take i) := by rw [List.take_take, Nat.min_eq_left (by omega), hRt]
  have hcpA : ∀ ty dc, (Builtin.copy_ #[33, 32] ty #[.slice (some ⟨h0, i * 3, none⟩) (c + 1 - i) dc, .slice (some ⟨b, 0, none⟩) 1 vc]).run Tryd.prog W1 = .ok (goInt 1) (W1.setCells h0 (i * 3) (encV x)) := fun ty dc =>
    run_copy_k W1 _ _ ty 29 3 h0 (i * 3) (c + 1 - i) dc ⟨b, 0, none⟩ 1 vc 1 (encV x) Tryd.underlying33 hsz (by simp only [Nat.min_def]; split <;> omega) rfl
      (fun j v hj => by
        rw [add_plain, Nat.zero_add]
        exact (hv.later hl1).cell j v (by rw [List.getElem?_toArray]; exact hj))
      (fun j hj => (own_capG hys).2.2.2.2 _ (by rw [encV_len] at hj; omega)) (fun j hj => hys.frozenAt _) (by simp [encV, Value.oneCell'])
  obtain ⟨o1, g1⟩ := own_setCells (size := 3) (encV x) (i * 3) _ W1 hys
  obtain ⟨W2, hW2⟩ : ∃ W2, W2 = W1.setCells h0 (i * 3) (encV x) := ⟨_, rfl⟩
  rw [← hW2] at o1 g1 hcpA
  have hdl : (fl (xs.drop i)).length = (c - i) * 3 := by rw [fl_length, List.length_drop, hn]
  have hgh : g ≠ h0 := by omega
  have hcpB : ∀ ty dc sc, (Builtin.copy_ #[33, 33] ty #[.slice (some ⟨h0, (i + 1) * 3, none⟩) (c + 1 - (i + 1)) dc, .slice (some ⟨g, i * 3, none⟩) (c - i) sc]).run Tryd.prog W2.drew = .ok (goInt ((c - i : Nat) : Int)) (W2.drew.setCells h0 ((i + 1) * 3) (fl (xs.drop i))) := fun ty dc sc =>
    run_copy_k W2.drew _ _ ty 29 3 h0 ((i + 1) * 3) (c + 1 - (i + 1)) dc ⟨g, i * 3, none⟩ (c - i) sc (c - i) (fl (xs.drop i)) Tryd.underlying33 hsz (by simp only [Nat.min_def]; split <;> omega) hdl
      (fun j v hj => by
        rw [add_plain]
        have hj2 := (List.getElem?_eq_some_iff.1 hj).1
        have h2 := ho.cellAt (i * 3 + j) (by omega)
        have h3 : w.cell? ⟨g, i * 3 + j, none⟩ = some v := by rw [h2, ← hj, fl_drop, List.getElem?_drop]
        show W2.cell? _ = _
        rw [cell_block (g1.block g (Nat.lt_of_lt_of_le hgl hl1.size) (by intro e; injection e with e; exact hgh e))]
        exact hl1.cell h3)
      (fun j hj => (own_capG o1).2.2.2.2 _ (by omega)) (fun j hj => o1.frozenAt _) (fl_one _)
  obtain ⟨o2, g2⟩ := own_setCells (size := 3) (fl (xs.drop i)) ((i + 1) * 3) _ W2.drew o1
  rw [ins_grow xs i x _ (by omega) hyl hyx] at o2
  have hgz : w.grownBy (W2.drew.setCells h0 ((i + 1) * 3) (fl (xs.drop i))) (some g) :=
     grown_new (grown_new hg1 g1 (by omega)) (only_trans (only_drew (World.grownBy.refl _ _)) g2) (by omega)
  have HFIN := Lib.hid (show InsP (insL xs i x) base g w (.returned (.slice (some ⟨h0, 0, none⟩) (c + 1) G)) (W2.drew.setCells h0 ((i + 1) * 3) (fl (xs.drop i))) from ⟨h0, G, by rw [insL_len, hn], by rw [insL_len, ← hn]; exact o2, hgz⟩)
  have h1 : ¬ ((i : Int) = (c : Int)) := by omega
  have h3 : i ≤ c := by omega
  have h5 : ¬ c = i := by omega
  have h6 : ¬ G = i := by omega
  have h6b : ¬ G = i + 1 := by omega
  have h7 : (c : Int) < (c : Int) + 1 := by omega
  have hw1 : IntKind.i64.wrap ((c : Int) + 1) = (c : Int) + 1 := IntWalk.i64_in _ ⟨by omega, by omega⟩
  have hw2 : IntKind.i64.wrap ((i : Int) + 1) = (i : Int) + 1 := IntWalk.i64_in _ ⟨by omega, by omega⟩
  have hw3 : IntKind.i64.wrap ((c : Int) + 1 - (i : Int)) = (c : Int) + 1 - (i : Int) := IntWalk.i64_in _ ⟨by omega, by omega⟩
  have h8 : 0 ≤ (i : Int) + 1 := by omega
  have h9 : (i : Int) + 1 ≤ (c : Int) + 1 := by omega
  have h10 : (i : Int) ≤ (c : Int) + 1 := by omega
  have h11 : ((i : Int) == (c : Int)) = false := by simp; omega
  have h12 : i ≤ c + 1 := by omega
  rw [← hW1] at hrz
  rw [hh0] at hrz
  clear hold hG hROW hRs hRt hg1 hl1 hys hyl hyx o1 g1 hdl o2 g2 hgz htl hsz ho hv hcell hn hW1 hkk hik hW2 hz0 hzs hzb
  go_enter Tryd.func72, Tryd.ntmps72
  go_wp2_with (first
    | (at_builtin; refine Lib.wpList_append_run _ rfl (.tmp 34) (.tmp 39) 33 3 rfl _ _ rfl rfl _ _ (hrz _) ?_)
    | (at_builtin; refine wpList_copy_runI _ rfl (.tmp 43) (.tmp 44) 33 32 rfl _ _ rfl rfl (hcpA _ _) ?_))
  go_region_law (refine step_copy_runI rfl (.tmp 50) (.tmp 53) 33 33 rfl (.slice (some ⟨h0, (i + 1) * 3, none⟩) (c + 1 - (i + 1)) (G - (i + 1))) (.slice (some ⟨g, i * 3, none⟩) (c - i) (c - i)) (by simp [Act.eval, Act.put]) (by simp [Act.eval, Act.put]) (hcpB _ _ _) ?_)
  go_wp2_with fail
  go_ret
  exact HFIN.out

theorem insert_mid (base g n c i b vc : Nat) (z : Int) (xs : List Val3) (x : Val3) (w : World) (ho : w.ownsRow base 29 3 (.slice (some ⟨g, 0, none⟩) n c) n (fl xs)) (hn : n = xs.length) (hz : z = (i : Int)) (hi : i < n) (hl : n ≤ 1000) (hv : Blk w b (encV x).toArray 29) (hbg : b ≠ g) (hb : base ≤ w.heap.size) :
    Calls Tryd.prog 72 #[.slice (some ⟨g, 0, none⟩) n c, .int .i64 z, .slice (some ⟨b, 0, none⟩) 1 vc] w (InsP (insL xs i x) base g w) := by
  by_cases h : n + 1 ≤ c
  · exact insert_room base g n c i b vc z xs x w ho hn hz hi hl hv hbg hb h
  · exact insert_grow base g n c i b vc z xs x w ho hn hz hi hl hv hb h
end Go.Proofs.YtklohbglkbhjhaaDoor
