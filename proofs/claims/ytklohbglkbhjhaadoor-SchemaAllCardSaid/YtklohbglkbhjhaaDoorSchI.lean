/- slices.Clone, Delete, Insert (of one) at ints. (tools/gen_schC.py, out of ChgC, ChgD, ChgE) -/
import Derived.Test.YtklohbglkbhjhaaDoorChgE
import Derived.Test.YtklohbglkbhjhaaDoorSchA
namespace Go.Proofs.YtklohbglkbhjhaaDoor
open Go.RowKit
set_option linter.unusedVariables false

theorem info_i1 : (Tryd.prog.info? 3).map (fun i => (i.zero, i.size, i.bytes)) = some (some (.int .i64 0), 1, 8) := by kernel_rfl
def encI (x : Int) : List Value := [.int .i64 x]
theorem encI_len (x : Int) : (encI x).length = 1 := rfl
theorem ein_length (l : List Int) : (ein l).length = l.length := by simp [ein]
theorem ein_append (a b : List Int) : ein (a ++ b) = ein a ++ ein b := List.map_append
theorem ein_take (l : List Int) (k : Nat) : ein (l.take k) = (ein l).take k := by simp [ein, List.map_take]
theorem ein_drop (l : List Int) (k : Nat) : ein (l.drop k) = (ein l).drop k := by simp [ein, List.map_drop]
theorem ein_one (l : List Int) : ∀ u ∈ ein l, u.oneCell' = true := by
  intro u hu
  obtain ⟨x, _, rfl⟩ := List.mem_map.1 hu
  rfl
/-- The values of one row without the i-th. -/
theorem ein_del (l : List Int) (i : Nat) (hi : i < l.length) (z : List Value) (hz : z.length = 1) :
    (setL (setL (ein l) (i) (ein (l.drop (i + 1)))) ((l.length - 1)) z).take ((l.length - 1)) = ein (l.eraseIdx i) := by
  have hl : (ein l).length = l.length := ein_length l
  have hd : (ein (l.drop (i + 1))).length = (l.length - (i + 1)) := by rw [ein_length, List.length_drop]
  rw [setL_eq z _ _ (by rw [setL_len, hl, hz]; omega), setL_eq _ _ _ (by rw [hl, hd]; omega)]
  rw [List.append_assoc, List.take_left' (by rw [List.length_take, List.length_append, List.length_append, List.length_take, List.length_drop, hl, hd]; omega)]
  rw [List.take_append_of_le_length (by rw [List.length_append, List.length_take, hl, hd]; omega), List.take_of_length_le (by rw [List.length_append, List.length_take, hl, hd]; omega)]
  rw [List.eraseIdx_eq_take_drop_succ, ein_append, ein_take]
/-- What Clone gives. -/
def ClonePI (xs : List Int) (w : World) (e : Ending) (w' : World) : Prop :=
  ∃ A c, e = .returned (.slice A xs.length c) ∧ w'.ownsRow w.heap.size 3 1 (.slice A xs.length c) xs.length (ein xs) ∧ (A = none → c = 0) ∧ Later w w'

set_option maxRecDepth 100000 in
theorem clone_anyI (A : Option Addr) (n c : Nat) (xs : List Int) (w : World) (hn : n = xs.length) (hl : n ≤ 1000) (hr : Has w A (ein xs)) (hnil : A = none → c = 0) :
    Calls Tryd.prog 59 #[.slice A n c] w (ClonePI xs w) := by
  rcases A with _ | a
  · have hx : xs = [] := by
      rcases hr with h | ⟨b, off, h, _⟩
      · have := ein_length xs; rw [h] at this; simp at this; exact List.eq_nil_of_length_eq_zero (by omega)
      · cases h
    subst hx
    have hn0 : n = 0 := hn
    subst hn0
    have hc0 := hnil rfl
    subst hc0
    have heq := Lib.run_eql_slice_nil (P := Tryd.prog) w 25 3 none 0 0 0 0 Tryd.underlying25
    clear hr hnil hl hn
    go_enter Tryd.func59, Tryd.ntmps59
    go_wp2_with fail
    go_ret
    exact ⟨none, 0, rfl, World.ownsRow_nil _ _ _ _, fun _ => rfl, Later.refl _⟩
  · have HO := Lib.hid (own_empty w w.heap.size 3 1 (Nat.le_refl _))
    have HR := Lib.hid (hr.later (Later.new w (.cells #[] 3)))
    have HM := Lib.hid (show (ein xs).length = n * 1 by rw [ein_length, hn, Nat.mul_one])
    have HN := Lib.hid hn
    have HL := Lib.hid (Later.new w (.cells #[] 3))
    have heq := Lib.run_eql_slice_nil (P := Tryd.prog) w 25 3 (some a) n c 0 0 Tryd.underlying25
    clear hr hn hnil
    go_enter Tryd.func59, Tryd.ntmps59
    go_wp2_with (at_builtin; go_loud (refine wpList_append_g _ rfl (.tmp 5) (.tmp 6) 25 rfl w.heap.size 3 _ 1 8 Tryd.underlying25 info_i1 rfl (by decide) _ 0 [] rfl HO.out (some a) n c (ein xs) rfl HR.out HM.out (by intro h; cases h) (ein_one _) (by unfold maxLen; omega) (by omega) (by simp) ?_; intro A2 c2 w6 o2 g2 b2 n2; simp only [Nat.zero_add, List.nil_append] at o2; have HO2 := Lib.hid o2; have HL6 := Lib.hid (Later.of (HL.out.below.trans b2)); have HN2 := Lib.hid n2; clear o2 g2 b2 n2))
    all_goals (try go_wp2_with fail)
    go_ret
    rw [HN.out] at HO2
    exact ⟨A2, c2, by rw [← HN.out]; rfl, HO2.out, HN2.out, HL6.out⟩

set_option maxRecDepth 100000 in
set_option maxHeartbeats 2000000 in
theorem delete1_anyI (base g n c i : Nat) (xs : List Int) (w : World) (ho : w.ownsRow base 3 1 (.slice (some ⟨g, 0, none⟩) n c) n (ein xs)) (hn : n = xs.length) (hi : i < n) (hl : n ≤ 1000) :
    Calls Tryd.prog 88 #[.slice (some ⟨g, 0, none⟩) n c, .int .i64 i, .int .i64 ((i : Int) + 1)] w
      fun e w' => e = .returned (.slice (some ⟨g, 0, none⟩) (n - 1) c) ∧ w'.ownsRow base 3 1 (.slice (some ⟨g, 0, none⟩) (n - 1) c) (n - 1) (ein (xs.eraseIdx i)) ∧ w.grownBy w' (some g) := by
  obtain ⟨hnc, hcm, hbg, hgl, hcell⟩ := own_capG ho
  have hm : c ≤ 9223372036854775807 := by unfold maxLen at hcm; omega
  obtain ⟨i0, hi0, hz0, hz1, hz2⟩ := info_parts info_i1
  obtain ⟨news, hnews⟩ : ∃ news, news = ein (xs.drop (i + 1)) := ⟨_, rfl⟩
  have hlen : news.length = (n - (i + 1)) := by rw [hnews, ein_length, List.length_drop, hn]
  obtain ⟨A, hA, hsrc⟩ : ∃ A : Addr, (if c = i + 1 then (some ⟨g, 0, none⟩ : Option Addr) else some ⟨g, (i + 1), none⟩) = some A ∧ Hid (∀ t u, news[t]? = some u → w.drew.cell? (A.add t) = some u) := by
    by_cases h : c = i + 1
    · refine ⟨⟨g, 0, none⟩, by rw [if_pos h], fun t u hu => ?_⟩
      have h0 : news.length = 0 := by rw [hlen]; omega
      rw [List.length_eq_zero_iff.1 h0] at hu
      simp at hu
    · refine ⟨⟨g, (i + 1), none⟩, by rw [if_neg h], fun t u hu => ?_⟩
      have ht : t < (n - (i + 1)) := by
        have := (List.getElem?_eq_some_iff.1 hu).1
        rwa [hlen] at this
      rw [add_plain]
      have h2 := ho.cellAt ((i + 1) + t) (by omega)
      show w.cell? _ = _
      rw [h2, ← hu, hnews, ein_drop, List.getElem?_drop]
  have s1 : Hid (news.length = (n - (i + 1)) * 1) := (by rw [Nat.mul_one]; exact hlen : news.length = (n - (i + 1)) * 1)
  have s2 : Hid (∀ u ∈ news, u.oneCell' = true) := by rw [hnews]; exact ein_one _
  have s3 : Hid (∀ t, t < news.length → (w.drew.cell? ⟨g, 0 + i * 1 + t, none⟩).isSome = true ∧ w.drew.frozen? ⟨g, 0 + i * 1 + t, none⟩ = false) := by
    intro t ht
    rw [hlen] at ht
    exact ⟨hcell _ (by omega), ho.frozenAt _⟩
  obtain ⟨W1, hW1⟩ : ∃ W1, W1 = w.drew.setCells g (0 + i * 1) news := ⟨_, rfl⟩
  obtain ⟨o1, g1⟩ := own_setCells (size := 1) news (i) (ein xs) w.drew ho
  rw [← Nat.zero_add i] at o1 g1
  have hi1 : 0 + i = 0 + i * 1 := by omega
  rw [hi1, ← hW1] at o1 g1
  have O1 := Lib.hid o1
  have hcl : ∀ ty, (Builtin.clear_ #[25] ty #[.slice (some ⟨g, (i + (n - (i + 1))), none⟩) 1 (c - (i + (n - (i + 1))))]).run Tryd.prog W1 = .ok (.tuple #[]) (W1.setCells g ((i + (n - (i + 1)))) [Value.int .i64 0]) := fun ty =>
    run_clear1 (P := Tryd.prog) W1 25 3 ty (.int .i64 0) Tryd.underlying25 Tryd.zeroValue3 [Value.int .i64 0] rfl (by simp [Value.oneCell']) g _ _
      (fun j hj => by
        have := (own_capG O1.out).2.2.2.2 ((i + (n - (i + 1))) + j) (by simp at hj; omega)
        exact this)
      (fun j hj => O1.out.frozenAt _)
  have hW : Hid (W1 = w.drew.setCells g (0 + i * 1) news) := hW1
  have hic : i ≤ c := by omega
  have hjc : i + 1 ≤ c := by omega
  have hwi : IntKind.i64.wrap ((i : Int) + 1) = (i : Int) + 1 := IntWalk.i64_in _ ⟨by omega, by omega⟩
  have hne : ((i : Int) == (i : Int) + 1) = false := by simp; omega
  have HOF := Lib.hid ho
  have HN := Lib.hid hn
  have HFIN := Lib.hid (show ∀ z : List Value, z.length = 1 → (setL (setL (ein xs) (0 + i * 1) news) ((n - 1)) z).take ((n - 1)) = ein (xs.eraseIdx i) from fun z hz => by
    rw [hnews, hn, Nat.mul_one, Nat.zero_add]; exact ein_del xs i (by omega) z hz)
  have HG1 := Lib.hid (show w.grownBy W1 (some g) from only_trans (only_drew (World.grownBy.refl _ _)) g1)
  have hni : n - (i + (n - (i + 1))) = 1 := by omega
  have hb1 : 0 ≤ (i : Int) + 1 := by omega
  have hb2 : (i : Int) + 1 ≤ (n : Int) := by omega
  have hb3 : i + (n - (i + 1)) ≤ n := by omega
  have hb4 : i + (n - (i + 1)) ≠ c := by omega
  clear hW1 hnews hlen hcell ho o1 hn g1
  go_enter Tryd.func88, Tryd.ntmps88
  go_wp2_with fail
  go_region_law (refine step_append_room rfl (.tmp 22) (.tmp 25) 25 rfl 3 i0 1 Tryd.underlying25 hi0 hz1 g 0 i c (by simp [Act.eval, Act.put]) A (n - (i + 1)) (c - (i + 1)) news (by simp [Act.eval, Act.put]) s1.out hsrc.out s2.out (by omega) s3.out ?_; rw [← hW.out])
  go_wp2_with fail
  go_ret
  have en : i + (n - (i + 1)) = n - 1 := by omega
  obtain ⟨o2, g2⟩ := own_setCells (size := 1) [Value.int .i64 0] ((n - 1)) _ _ O1.out
  have o3 := own_cut o2 (Nat.sub_le n 1)
  rw [Nat.mul_one] at o3
  rw [HFIN.out _ rfl] at o3
  rw [en]
  exact ⟨rfl, o3, only_trans HG1.out g2⟩


theorem ein_snoc (l : List Int) (x : Int) : ein l ++ encI x = ein (l ++ [x]) := by rw [ein_append]; rfl
/-- What Insert gives. -/
def InsPI (l : List Int) (base g0 : Nat) (w : World) (e : Ending) (w' : World) : Prop :=
  ∃ g c, e = .returned (.slice (some ⟨g, 0, none⟩) l.length c) ∧ w'.ownsRow base 3 1 (.slice (some ⟨g, 0, none⟩) l.length c) l.length (ein l) ∧ w.grownBy w' (some g0)

set_option maxRecDepth 100000 in
set_option maxHeartbeats 2000000 in
theorem insert_endI (base g n c b off vc : Nat) (z : Int) (xs : List Int) (x : Int) (w : World) (ho : w.ownsRow base 3 1 (.slice (some ⟨g, 0, none⟩) n c) n (ein xs)) (hn : n = xs.length) (hz : z = (n : Int)) (hl : n ≤ 1000) (hv : Has w (some ⟨b, off, none⟩) (encI x)) (hb : base ≤ w.heap.size) :
    Calls Tryd.prog 90 #[.slice (some ⟨g, 0, none⟩) n c, .int .i64 z, .slice (some ⟨b, off, none⟩) 1 vc] w (InsPI (xs ++ [x]) base g w) := by
  subst hz
  obtain ⟨hnc, hcm, hbg, hgl, hcell⟩ := own_capG ho
  have hm : c ≤ 9223372036854775807 := by unfold maxLen at hcm; omega
  have HN := Lib.hid hn
  have HO := Lib.hid ho
  have HV := Lib.hid hv
  clear hcell hn ho hv
  go_enter Tryd.func90, Tryd.ntmps90
  go_wp2_with (at_builtin; go_loud (refine wpList_append_tx _ rfl (.tmp 23) (.tmp 24) 25 25 rfl base 3 3 _ 1 8 Tryd.underlying25 Tryd.underlying25 info_i1 rfl (by decide) _ n c (ein xs) rfl HO.out b off 1 vc (encI x) rfl HV.out rfl (by simp [encI, Value.oneCell']) (by unfold maxLen; omega) (by omega) hb ?_; intro A2 c2 w6 o2 b2 n2; rw [ein_snoc] at o2; obtain ⟨g2, rfl⟩ := own_some o2 (by omega); have HO2 := Lib.hid o2; have HB6 := Lib.hid b2; clear o2 b2 n2))
  all_goals go_ret
  all_goals have hl2 : (xs ++ [x]).length = n + 1 := by rw [List.length_append, HN.out]; rfl
  all_goals exact ⟨g2, c2, by rw [hl2]; rfl, by rw [hl2]; exact HO2.out, HB6.out⟩


theorem ein_ins (l : List Int) (i : Nat) (x : Int) : ein (insA l i x) = ein (l.take i) ++ encI x ++ ein (l.drop i) := by
  unfold insA
  rw [ein_append, List.append_assoc]; rfl
theorem ins_roomI (xs : List Int) (i : Nat) (x : Int) (ys : List Value) (hi : i ≤ xs.length) (hy : ys.length = (xs.length + 1)) (ht : ys.take (i) = ein (xs.take i)) :
    setL (setL ys ((i + 1)) (ein (xs.drop i))) (i) (encI x) = ein (insA xs i x) := by
  have hd : (ein (xs.drop i)).length = (xs.length - i) := by rw [ein_length, List.length_drop]
  have e1 : setL ys ((i + 1)) (ein (xs.drop i)) = ys.take ((i + 1)) ++ ein (xs.drop i) := by
    have e0 : ys.drop ((i + 1) + (ein (xs.drop i)).length) = [] := List.drop_eq_nil_of_le (by rw [hd, hy]; omega)
    rw [setL_eq _ _ _ (by rw [hd, hy]; omega), e0, List.append_nil]
  rw [e1, setL_eq _ _ _ (by rw [encI_len, List.length_append, List.length_take, hd, hy]; omega), encI_len, ein_ins]
  rw [List.take_append_of_le_length (by rw [List.length_take, hy]; omega), List.take_take, Nat.min_eq_left (by omega), ht]
  rw [List.drop_append, List.drop_eq_nil_of_le (by rw [List.length_take, hy]; omega), List.nil_append, List.length_take, hy, show i + 1 - min ((i + 1)) ((xs.length + 1)) = 0 by omega, List.drop_zero]
theorem ins_growI (xs : List Int) (i : Nat) (x : Int) (ys : List Value) (hi : i ≤ xs.length) (hy : ys.length = (xs.length + 1)) (ht : ys.take (i) = ein (xs.take i)) :
    setL (setL ys (i) (encI x)) ((i + 1)) (ein (xs.drop i)) = ein (insA xs i x) := by
  have hd : (ein (xs.drop i)).length = (xs.length - i) := by rw [ein_length, List.length_drop]
  have e1 : setL ys (i) (encI x) = ein (xs.take i) ++ encI x ++ ys.drop (i + 1) := by
    rw [setL_eq _ _ _ (by rw [encI_len, hy]; omega), encI_len, ht]
  have h3 : (ein (xs.take i) ++ encI x).length = (i + 1) := by rw [List.length_append, ein_length, List.length_take, encI_len]; omega
  rw [e1, setL_eq _ _ _ (by rw [hd, List.length_append, h3, List.length_drop, hy]; omega), ein_ins]
  have e0 : (ein (xs.take i) ++ encI x ++ ys.drop (i + 1)).drop ((i + 1) + (ein (xs.drop i)).length) = [] := List.drop_eq_nil_of_le (by rw [hd, List.length_append, h3, List.length_drop, hy]; omega)
  rw [e0, List.append_nil, List.take_append_of_le_length (by omega), List.take_of_length_le (by omega)]
set_option maxRecDepth 100000 in
set_option maxHeartbeats 4000000 in
theorem insert_roomI (base g n c i b vc : Nat) (z : Int) (xs : List Int) (x : Int) (w : World) (ho : w.ownsRow base 3 1 (.slice (some ⟨g, 0, none⟩) n c) n (ein xs)) (hn : n = xs.length) (hz : z = (i : Int)) (hi : i < n) (hl : n ≤ 1000) (hv : Blk w b (encI x).toArray 3) (hbg : b ≠ g) (hb : base ≤ w.heap.size) (hroom : n + 1 ≤ c) :
    Calls Tryd.prog 90 #[.slice (some ⟨g, 0, none⟩) n c, .int .i64 z, .slice (some ⟨b, 0, none⟩) 1 vc] w (InsPI (insA xs i x) base g w) := by
  subst hz
  obtain ⟨hnc, hcm, hbg', hgl, hcell⟩ := own_capG ho
  have hm : c ≤ 9223372036854775807 := by unfold maxLen at hcm; omega
  obtain ⟨ys, hys, hyt, hyl, hshape⟩ := own_more ho hroom
  rw [Nat.mul_one] at hyt hyl hshape
  have hsz : (Tryd.prog.info? 3).map (·.size) = some 1 := by
    obtain ⟨i0, hi0, h0, h1, h2⟩ := info_parts info_i1
    rw [hi0]; simp [h1]
  have hyx : ys.take (i) = ein (xs.take i) := by rw [ein_take, ← hyt, List.take_take, Nat.min_eq_left (by omega)]
  have hov : ∀ lb cb, (callFunc 95 #[.slice (some ⟨b, 0, none⟩) 1 vc, .slice (some ⟨g, (i + 1), none⟩) lb cb]).run Tryd.prog w = .ok (.value (.bool false)) w := fun lb cb => by
    rw [run_callFunc_extern Tryd.func95 (by kernel_rfl) (by kernel_rfl) (by kernel_rfl) (e := Extern.SlicesOverlaps.overlaps #[25, 25] #[4]) (by kernel_rfl),
      Lib.run_overlaps_apart w 25 4 3 Tryd.underlying25 1 Tryd.sizeOf3 ⟨b, 0, none⟩ ⟨g, (i + 1), none⟩ 1 vc lb cb hbg 3 3 1 (c) (by unfold World.shape?; rw [show w.heap[b]? = _ from hv]; rfl) hshape (by omega) (hv.frozen 0) (hv.frozen 1)]
    rfl
  have hdl : (ein (xs.drop i)).length = (n - i) := by rw [ein_length, List.length_drop, hn]
  have hcp1 : ∀ ty dc sc, (Builtin.copy_ #[25, 25] ty #[.slice (some ⟨g, (i + 1), none⟩) (n + 1 - (i + 1)) dc, .slice (some ⟨g, i, none⟩) (n + 1 - i) sc]).run Tryd.prog w.drew = .ok (goInt ((n - i : Nat) : Int)) (w.drew.setCells g ((i + 1)) (ein (xs.drop i))) := fun ty dc sc =>
    run_copy_k w.drew _ _ ty 3 1 g ((i + 1)) (n + 1 - (i + 1)) dc ⟨g, i, none⟩ (n + 1 - i) sc (n - i) (ein (xs.drop i)) Tryd.underlying25 hsz (by simp only [Nat.min_def]; split <;> omega) (by rw [Nat.mul_one]; exact hdl)
      (fun j v hj => by
        rw [add_plain]
        have hj2 := (List.getElem?_eq_some_iff.1 hj).1
        have h2 := ho.cellAt (i + j) (by omega)
        show w.cell? _ = _
        rw [h2, ← hj, ein_drop, List.getElem?_drop])
      (fun j hj => hcell _ (by omega)) (fun j hj => ho.frozenAt _) (ein_one _)
  obtain ⟨W1, hW1⟩ : ∃ W1, W1 = w.drew.setCells g ((i + 1)) (ein (xs.drop i)) := ⟨_, rfl⟩
  obtain ⟨o1, g1⟩ := own_setCells (size := 1) (ein (xs.drop i)) ((i + 1)) ys w.drew hys
  rw [← hW1] at o1 g1 hcp1
  have hb1 : Blk W1 b (encI x).toArray 3 := (g1.block b hv.lt (by intro e; injection e with e; exact hbg e)).trans hv
  have hcp2 : ∀ ty dc, (Builtin.copy_ #[25, 25] ty #[.slice (some ⟨g, i, none⟩) (n + 1 - i) dc, .slice (some ⟨b, 0, none⟩) 1 vc]).run Tryd.prog W1 = .ok (goInt 1) (W1.setCells g (i) (encI x)) := fun ty dc =>
    run_copy_k W1 _ _ ty 3 1 g (i) (n + 1 - i) dc ⟨b, 0, none⟩ 1 vc 1 (encI x) Tryd.underlying25 hsz (by simp only [Nat.min_def]; split <;> omega) rfl
      (fun j v hj => by
        rw [add_plain, Nat.zero_add]
        exact hb1.cell j v (by rw [List.getElem?_toArray]; exact hj))
      (fun j hj => (own_capG o1).2.2.2.2 _ (by rw [encI_len] at hj; omega)) (fun j hj => o1.frozenAt _) (by simp [encI, Value.oneCell'])
  obtain ⟨o2, g2⟩ := own_setCells (size := 1) (encI x) (i) _ W1 o1
  rw [ins_roomI xs i x ys (by omega) (by rw [hyl, hn]) hyx] at o2
  have HFIN := Lib.hid (show InsPI (insA xs i x) base g w (.returned (.slice (some ⟨g, 0, none⟩) (n + 1) c)) (W1.setCells g (i) (encI x)) from ⟨g, c, by rw [insA_len, hn], by rw [insA_len, ← hn]; exact o2, only_trans (only_trans (only_drew (World.grownBy.refl _ _)) g1) g2⟩)
  have h1 : ¬ ((i : Int) = (n : Int)) := by omega
  have h2 : ¬ (c < n + 1) := by omega
  have h3 : i ≤ n := by omega
  have h4 : i + 1 ≤ n + 1 := by omega
  have h5 : ¬ c = i := by omega
  have h6 : ¬ c = i + 1 := by omega
  have h7 : ¬ ((c : Int) < (n : Int) + 1) := by omega
  have hw1 : IntKind.i64.wrap ((n : Int) + 1) = (n : Int) + 1 := IntWalk.i64_in _ ⟨by omega, by omega⟩
  have hw2 : IntKind.i64.wrap ((i : Int) + 1) = (i : Int) + 1 := IntWalk.i64_in _ ⟨by omega, by omega⟩
  have h8 : 0 ≤ (i : Int) + 1 := by omega
  have h9 : (i : Int) + 1 ≤ (n : Int) + 1 := by omega
  have h10 : (i : Int) ≤ (n : Int) + 1 := by omega
  have h11 : ((i : Int) == (n : Int)) = false := by simp; omega
  clear hyt hyl hshape hsz hyx hdl o1 g1 hb1 o2 g2 hys ho hv hcell hn hW1
  go_enter Tryd.func90, Tryd.ntmps90
  go_wp2_with (simp only [hov])
  go_region_law (refine step_copy_runI rfl (.tmp 73) (.tmp 76) 25 25 rfl (.slice (some ⟨g, (i + 1), none⟩) (n + 1 - (i + 1)) (c - (i + 1))) (.slice (some ⟨g, i, none⟩) (n + 1 - i) (c - i)) (by simp [Act.eval, Act.put]) (by simp [Act.eval, Act.put]) (hcp1 _ _ _) ?_)
  go_wp2_with (at_builtin; refine wpList_copy_runI _ rfl (.tmp 80) (.tmp 81) 25 25 rfl _ _ rfl rfl (hcp2 _ _) ?_)
  go_ret
  exact HFIN.out

set_option maxRecDepth 100000 in
set_option maxHeartbeats 4000000 in
theorem insert_growI (base g n c i b vc : Nat) (z : Int) (xs : List Int) (x : Int) (w : World) (ho : w.ownsRow base 3 1 (.slice (some ⟨g, 0, none⟩) n c) n (ein xs)) (hn : n = xs.length) (hz : z = (i : Int)) (hi : i < n) (hl : n ≤ 1000) (hv : Blk w b (encI x).toArray 3) (hb : base ≤ w.heap.size) (hroom : ¬ n + 1 ≤ c) :
    Calls Tryd.prog 90 #[.slice (some ⟨g, 0, none⟩) n c, .int .i64 z, .slice (some ⟨b, 0, none⟩) 1 vc] w (InsPI (insA xs i x) base g w) := by
  subst hz
  obtain ⟨hnc, hcm, hbg', hgl, hcell⟩ := own_capG ho
  have hm : c ≤ 9223372036854775807 := by unfold maxLen at hcm; omega
  obtain rfl : c = n := by omega
  obtain ⟨i0, hi0, hz0, hzs, hzb⟩ := info_parts info_i1
  have hsz : (Tryd.prog.info? 3).map (·.size) = some 1 := by rw [hi0]; simp [hzs]
  have hkk : (c : Int) + 1 - (i : Int) = ((c + 1 - i : Nat) : Int) := by omega
  have hik : i + (c + 1 - i) = c + 1 := by omega
  have htl : (ein (xs.take i)).length = i := by rw [ein_length, List.length_take]; omega
  have hold : (Builtin.firstCells i0.size i (.slice (some ⟨g, 0, none⟩) i c)).run Tryd.prog w.drew = .ok (ein (xs.take i)).toArray w.drew := by
    rw [hzs]
    exact run_firstCells_some w.drew 1 i ⟨g, 0, none⟩ i c (ein (xs.take i)) (by rw [Nat.mul_one]; exact htl) (fun j v hj => by
      have hj2 := (List.getElem?_eq_some_iff.1 hj).1
      rw [add_plain, Nat.zero_add]
      have h2 := ho.cellAt j (by omega)
      show w.cell? _ = _
      rw [h2, ← hj, ein_take, List.getElem?_take, if_pos (by omega)])
  obtain ⟨G, hG⟩ : ∃ G, G = grownCap w (c + 1) c 3 := ⟨_, rfl⟩
  have hGn : c + 1 ≤ G := by rw [hG]; exact grownCap_ge w _ _ _
  have hGm : G ≤ maxLen := by
    have := grownCap_le_maxLen w (c + 1) c 3 (by unfold maxLen; omega)
    rw [← hG] at this
    exact this
  have hG63 : G ≤ 9223372036854775807 := by unfold maxLen at hGm; omega
  obtain ⟨ROW, hROW⟩ : ∃ ROW : Array Value, ROW = (ein (xs.take i)).toArray ++ Builtin.zeroCells (Value.int .i64 0).cells (c + 1 - i) ++ Builtin.zeroCells (Value.int .i64 0).cells (G - (c + 1)) := ⟨_, rfl⟩
  have hrz : ∀ ty, (Builtin.append_ #[25, 3] ty #[.slice (some ⟨g, 0, none⟩) i c, .int .i64 ((c : Int) + 1 - (i : Int))]).run Tryd.prog w =
      .ok (.slice (some ⟨w.heap.size, 0, none⟩) (c + 1) G) (w.drew.alloc (.cells ROW 3)) := fun ty => by
    have h := Lib.run_append_grow_zeros w 25 3 ty 3 i0 _ .i64 .i64 Tryd.underlying25 Tryd.underlying3 hi0 hz0 (some ⟨g, 0, none⟩) i c (ein (xs.take i)) hold (c + 1 - i) (by omega) (by omega) (by omega) (by omega) (by rw [hzb]; omega) (by rw [hzb, hik]; exact growslice_fits (by omega) (by omega))
    rw [hik, ← hG, ← hROW] at h
    rw [hkk]
    exact h
  have hRs : ROW.size = G := by
    rw [hROW]
    simp [Builtin.zeroCells, Value.cells, htl]
    omega
  have hRt : ROW.toList.take (i) = ein (xs.take i) := by
    rw [hROW]
    simp only [Array.toList_append, List.append_assoc]
    rw [List.take_left' htl]
  obtain ⟨h0, hh0⟩ : ∃ x, w.heap.size = x := ⟨_, rfl⟩
  obtain ⟨W1, hW1⟩ : ∃ W1, W1 = w.drew.alloc (.cells ROW 3) := ⟨_, rfl⟩
  have hg1 : w.grownBy W1 (some g) := by rw [hW1]; exact only_alloc (only_drew (World.grownBy.refl _ _)) _
  have hl1 : Later w W1 := by rw [hW1]; exact (Later.refl w).drew.alloc _
  have hys : W1.ownsRow base 3 1 (.slice (some ⟨h0, 0, none⟩) (c + 1) G) (c + 1) (ROW.toList.take ((c + 1))) := by
    refine ⟨by rw [List.length_take, Array.length_toList, hRs]; omega, .inr ⟨h0, G, ROW, rfl, by omega, ?_, hGn, hGm, by rw [Nat.mul_one]; exact hRs, by rw [Nat.mul_one]⟩⟩
    rw [hW1, ← hh0]; exact heap_alloc_new w.drew _
  have hyl : (ROW.toList.take ((c + 1))).length = (xs.length + 1) := by rw [List.length_take, Array.length_toList, hRs, ← hn]; omega
  have hyx : (ROW.toList.take ((c + 1))).take (i) = ein (xs.take i) := by rw [List.take_take, Nat.min_eq_left (by omega), hRt]
  have hcpA : ∀ ty dc, (Builtin.copy_ #[25, 25] ty #[.slice (some ⟨h0, i, none⟩) (c + 1 - i) dc, .slice (some ⟨b, 0, none⟩) 1 vc]).run Tryd.prog W1 = .ok (goInt 1) (W1.setCells h0 (i) (encI x)) := fun ty dc =>
    run_copy_k W1 _ _ ty 3 1 h0 (i) (c + 1 - i) dc ⟨b, 0, none⟩ 1 vc 1 (encI x) Tryd.underlying25 hsz (by simp only [Nat.min_def]; split <;> omega) rfl
      (fun j v hj => by
        rw [add_plain, Nat.zero_add]
        exact (hv.later hl1).cell j v (by rw [List.getElem?_toArray]; exact hj))
      (fun j hj => (own_capG hys).2.2.2.2 _ (by rw [encI_len] at hj; omega)) (fun j hj => hys.frozenAt _) (by simp [encI, Value.oneCell'])
  obtain ⟨o1, g1⟩ := own_setCells (size := 1) (encI x) (i) _ W1 hys
  obtain ⟨W2, hW2⟩ : ∃ W2, W2 = W1.setCells h0 (i) (encI x) := ⟨_, rfl⟩
  rw [← hW2] at o1 g1 hcpA
  have hdl : (ein (xs.drop i)).length = (c - i) := by rw [ein_length, List.length_drop, hn]
  have hgh : g ≠ h0 := by omega
  have hcpB : ∀ ty dc sc, (Builtin.copy_ #[25, 25] ty #[.slice (some ⟨h0, (i + 1), none⟩) (c + 1 - (i + 1)) dc, .slice (some ⟨g, i, none⟩) (c - i) sc]).run Tryd.prog W2.drew = .ok (goInt ((c - i : Nat) : Int)) (W2.drew.setCells h0 ((i + 1)) (ein (xs.drop i))) := fun ty dc sc =>
    run_copy_k W2.drew _ _ ty 3 1 h0 ((i + 1)) (c + 1 - (i + 1)) dc ⟨g, i, none⟩ (c - i) sc (c - i) (ein (xs.drop i)) Tryd.underlying25 hsz (by simp only [Nat.min_def]; split <;> omega) (by rw [Nat.mul_one]; exact hdl)
      (fun j v hj => by
        rw [add_plain]
        have hj2 := (List.getElem?_eq_some_iff.1 hj).1
        have h2 := ho.cellAt (i + j) (by omega)
        have h3 : w.cell? ⟨g, i + j, none⟩ = some v := by rw [h2, ← hj, ein_drop, List.getElem?_drop]
        show W2.cell? _ = _
        rw [cell_block (g1.block g (Nat.lt_of_lt_of_le hgl hl1.size) (by intro e; injection e with e; exact hgh e))]
        exact hl1.cell h3)
      (fun j hj => (own_capG o1).2.2.2.2 _ (by omega)) (fun j hj => o1.frozenAt _) (ein_one _)
  obtain ⟨o2, g2⟩ := own_setCells (size := 1) (ein (xs.drop i)) ((i + 1)) _ W2.drew o1
  rw [ins_growI xs i x _ (by omega) hyl hyx] at o2
  have hgz : w.grownBy (W2.drew.setCells h0 ((i + 1)) (ein (xs.drop i))) (some g) :=
     grown_new (grown_new hg1 g1 (by omega)) (only_trans (only_drew (World.grownBy.refl _ _)) g2) (by omega)
  have HFIN := Lib.hid (show InsPI (insA xs i x) base g w (.returned (.slice (some ⟨h0, 0, none⟩) (c + 1) G)) (W2.drew.setCells h0 ((i + 1)) (ein (xs.drop i))) from ⟨h0, G, by rw [insA_len, hn], by rw [insA_len, ← hn]; exact o2, hgz⟩)
  have h1 : ¬ ((i : Int) = (c : Int)) := by omega
  have h3 : i ≤ c := by omega
  have h5 : ¬ c = i := by omega
  have h6 : ¬ G = i := by omega
  have h6b : ¬ G = i + 1 := by omega
  have h7 : (c : Int) < (c : Int) + 1 := by omega
  have hw1 : IntKind.i64.wrap ((c : Int) + 1) = (c : Int) + 1 := IntWalk.i64_in _ ⟨by omega, by omega⟩
  have hw2 : IntKind.i64.wrap ((i : Int) + 1) = (i : Int) + 1 := IntWalk.i64_in _ ⟨by omega, by omega⟩
  have hw3 : IntKind.i64.wrap ((c : Int) + 1 - (i : Int)) = (c : Int) + 1 - (i : Int) := IntWalk.i64_in _ ⟨by omega, by omega⟩
  have h8 : 0 ≤ (i : Int) + 1 := by omega
  have h9 : (i : Int) + 1 ≤ (c : Int) + 1 := by omega
  have h10 : (i : Int) ≤ (c : Int) + 1 := by omega
  have h11 : ((i : Int) == (c : Int)) = false := by simp; omega
  have h12 : i ≤ c + 1 := by omega
  rw [← hW1] at hrz
  rw [hh0] at hrz
  clear hold hG hROW hRs hRt hg1 hl1 hys hyl hyx o1 g1 hdl o2 g2 hgz htl hsz ho hv hcell hn hW1 hkk hik hW2 hz0 hzs hzb
  go_enter Tryd.func90, Tryd.ntmps90
  go_wp2_with (first
    | (at_builtin; refine Lib.wpList_append_run _ rfl (.tmp 34) (.tmp 39) 25 3 rfl _ _ rfl rfl _ _ (hrz _) ?_)
    | (at_builtin; refine wpList_copy_runI _ rfl (.tmp 43) (.tmp 44) 25 25 rfl _ _ rfl rfl (hcpA _ _) ?_))
  go_region_law (refine step_copy_runI rfl (.tmp 50) (.tmp 53) 25 25 rfl (.slice (some ⟨h0, (i + 1), none⟩) (c + 1 - (i + 1)) (G - (i + 1))) (.slice (some ⟨g, i, none⟩) (c - i) (c - i)) (by simp [Act.eval, Act.put]) (by simp [Act.eval, Act.put]) (hcpB _ _ _) ?_)
  go_wp2_with fail
  go_ret
  exact HFIN.out

theorem insert_midI (base g n c i b vc : Nat) (z : Int) (xs : List Int) (x : Int) (w : World) (ho : w.ownsRow base 3 1 (.slice (some ⟨g, 0, none⟩) n c) n (ein xs)) (hn : n = xs.length) (hz : z = (i : Int)) (hi : i < n) (hl : n ≤ 1000) (hv : Blk w b (encI x).toArray 3) (hbg : b ≠ g) (hb : base ≤ w.heap.size) :
    Calls Tryd.prog 90 #[.slice (some ⟨g, 0, none⟩) n c, .int .i64 z, .slice (some ⟨b, 0, none⟩) 1 vc] w (InsPI (insA xs i x) base g w) := by
  by_cases h : n + 1 ≤ c
  · exact insert_roomI base g n c i b vc z xs x w ho hn hz hi hl hv hbg hb h
  · exact insert_growI base g n c i b vc z xs x w ho hn hz hi hl hv hb h


end Go.Proofs.YtklohbglkbhjhaaDoor
