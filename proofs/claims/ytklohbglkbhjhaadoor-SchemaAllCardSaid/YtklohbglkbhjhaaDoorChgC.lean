/- slices.Clone, Delete (of one), Insert (of one) at rows of values. -/
import Derived.Test.YtklohbglkbhjhaaDoorStepN
import Derived.Test.YtklohbglkbhjhaaDoorKripke
import Derived.Lib.SliceRun
namespace Go.Proofs.YtklohbglkbhjhaaDoor
open Go.RowKit
set_option linter.unusedVariables false

/-- A list with some of its elements written over. -/
def setL (xs : List Value) : Nat → List Value → List Value
  | _, [] => xs
  | o, v :: r => setL (xs.set o v) (o + 1) r
theorem setL_len : ∀ (vs : List Value) (o : Nat) (xs : List Value), (setL xs o vs).length = xs.length
  | [], _, _ => rfl
  | v :: r, o, xs => by unfold setL; rw [setL_len r]; exact List.length_set
theorem setL_eq : ∀ (vs : List Value) (o : Nat) (xs : List Value), o + vs.length ≤ xs.length → setL xs o vs = xs.take o ++ vs ++ xs.drop (o + vs.length)
  | [], o, xs, _ => by simp [setL]
  | v :: r, o, xs, h => by
    unfold setL
    simp only [List.length_cons] at h
    rw [setL_eq r (o + 1) _ (by rw [List.length_set]; omega)]
    have h1 : (xs.set o v).take (o + 1) = xs.take o ++ [v] := by
      rw [List.take_succ_eq_append_getElem (by rw [List.length_set]; omega), List.getElem_set_self, List.take_set_of_le (Nat.le_refl _)]
    have h2 : (xs.set o v).drop (o + 1 + r.length) = xs.drop (o + 1 + r.length) := List.drop_set_of_lt (by omega)
    rw [h1, h2, List.length_cons, List.append_assoc, List.append_assoc, show o + (r.length + 1) = o + 1 + r.length by omega]
    simp
theorem own_setCells {base : Nat} {e : TypeId} {size g n cap : Nat} : ∀ (vs : List Value) (o : Nat) (xs : List Value) (w : World), w.ownsRow base e size (.slice (some ⟨g, 0, none⟩) n cap) n xs →
    (w.setCells g o vs).ownsRow base e size (.slice (some ⟨g, 0, none⟩) n cap) n (setL xs o vs) ∧ w.grownBy (w.setCells g o vs) (some g)
  | [], _, _, w, h => ⟨h, World.grownBy.refl _ _⟩
  | v :: r, o, xs, w, h => by
    obtain ⟨h1, h2⟩ := h.stored o v
    obtain ⟨h3, h4⟩ := own_setCells r (o + 1) (xs.set o v) _ h1
    exact ⟨h3, only_trans h2 h4⟩
/-- A row cut short. -/
theorem own_cut {w : World} {base : Nat} {e : TypeId} {size n m cap : Nat} {A : Option Addr} {xs : List Value} (h : w.ownsRow base e size (.slice A n cap) n xs) (hm : m ≤ n) : w.ownsRow base e size (.slice A m cap) m (xs.take (m * size)) := by
  obtain ⟨h1, h2⟩ := h
  have hms : m * size ≤ n * size := Nat.mul_le_mul_right _ hm
  refine ⟨by rw [List.length_take]; omega, ?_⟩
  rcases h2 with ⟨hv, h0⟩ | ⟨g, c, cur, hv, hb, hg, hnc, hcm, hcs, ht⟩
  · injection hv with e1 e2 e3
    subst e1 e2 e3
    have : m = 0 := by omega
    subst this
    exact .inl ⟨rfl, rfl⟩
  · injection hv with e1 e2 e3
    subst e1 e3
    refine .inr ⟨g, cap, cur, rfl, hb, hg, by omega, hcm, hcs, ?_⟩
    rw [← ht, List.take_take, Nat.min_eq_left hms]
/-- The values of one row without the i-th. -/
theorem fl_del (l : List Val3) (i : Nat) (hi : i < l.length) (z : List Value) (hz : z.length = 3) :
    (setL (setL (fl l) (i * 3) (fl (l.drop (i + 1)))) ((l.length - 1) * 3) z).take ((l.length - 1) * 3) = fl (l.eraseIdx i) := by
  have hl : (fl l).length = l.length * 3 := fl_length l
  have hd : (fl (l.drop (i + 1))).length = (l.length - (i + 1)) * 3 := by rw [fl_length, List.length_drop]
  rw [setL_eq z _ _ (by rw [setL_len, hl, hz]; omega), setL_eq _ _ _ (by rw [hl, hd]; omega)]
  rw [List.append_assoc, List.take_left' (by rw [List.length_take, List.length_append, List.length_append, List.length_take, List.length_drop, hl, hd]; omega)]
  rw [List.take_append_of_le_length (by rw [List.length_append, List.length_take, hl, hd]; omega), List.take_of_length_le (by rw [List.length_append, List.length_take, hl, hd]; omega)]
  rw [List.eraseIdx_eq_take_drop_succ, fl_append, fl_take]
theorem run_clear1 {P : Program} (w : World) (t e ty : TypeId) (z : Value) (ht : P.underlying t = some (.slice e)) (hv : ∀ w, (zeroValue e).run P w = .ok z w) (zs : List Value) (hz : z.cells = zs.toArray) (h1 : ∀ v ∈ zs, v.oneCell' = true) (b o c : Nat)
    (hc : ∀ j, j < zs.length → (w.cell? ⟨b, o + j, none⟩).isSome = true) (hf : ∀ j, j < zs.length → w.frozen? ⟨b, o + j, none⟩ = false) :
    (Builtin.clear_ #[t] ty #[.slice (some ⟨b, o, none⟩) 1 c]).run P w = .ok (.tuple #[]) (w.setCells b o zs) := by
  have hzc : (Builtin.zeroCells z.cells 1).toList = zs := by
    rw [hz]
    simp [Builtin.zeroCells]
    apply List.ext_getElem
    · simp
    · intro i h1 h2
      have : i < zs.length := h2
      simp [Nat.mod_eq_of_lt this, List.getElem?_eq_getElem this]
  have hst := run_storeCells_cells (P := P) b o zs 0 w (by simpa using hc) (by simpa using hf) h1
  simp only [Nat.add_zero] at hst
  simp [Builtin.clear_, run_underlying ht, hv, hzc, hst]

/-- What Clone gives. -/
def CloneP (xs : List Val3) (w : World) (e : Ending) (w' : World) : Prop :=
  ∃ A c, e = .returned (.slice A xs.length c) ∧ w'.ownsRow w.heap.size 29 3 (.slice A xs.length c) xs.length (fl xs) ∧ (A = none → c = 0) ∧ Later w w'

set_option maxRecDepth 100000 in
theorem clone_any (A : Option Addr) (n c : Nat) (xs : List Val3) (w : World) (hn : n = xs.length) (hl : n ≤ 1000) (hr : Has w A (fl xs)) (hnil : A = none → c = 0) :
    Calls Tryd.prog 69 #[.slice A n c] w (CloneP xs w) := by
  rcases A with _ | a
  · have hx : xs = [] := by
      rcases hr with h | ⟨b, off, h, _⟩
      · have := fl_length xs; rw [h] at this; simp at this; exact List.eq_nil_of_length_eq_zero (by omega)
      · cases h
    subst hx
    have hn0 : n = 0 := hn
    subst hn0
    have hc0 := hnil rfl
    subst hc0
    have heq := Lib.run_eql_slice_nil (P := Tryd.prog) w 33 29 none 0 0 0 0 Tryd.underlying33
    clear hr hnil hl hn
    go_enter Tryd.func69, Tryd.ntmps69
    go_wp2_with fail
    go_ret
    exact ⟨none, 0, rfl, World.ownsRow_nil _ _ _ _, fun _ => rfl, Later.refl _⟩
  · have HO := Lib.hid (own_empty w w.heap.size 29 3 (Nat.le_refl _))
    have HR := Lib.hid (hr.later (Later.new w (.cells #[] 29)))
    have HM := Lib.hid (show (fl xs).length = n * 3 by rw [fl_length, hn])
    have HN := Lib.hid hn
    have HL := Lib.hid (Later.new w (.cells #[] 29))
    have heq := Lib.run_eql_slice_nil (P := Tryd.prog) w 33 29 (some a) n c 0 0 Tryd.underlying33
    clear hr hn hnil
    go_enter Tryd.func69, Tryd.ntmps69
    go_wp2_with (at_builtin; go_loud (refine wpList_append_g _ rfl (.tmp 5) (.tmp 6) 33 rfl w.heap.size 29 _ 3 32 Tryd.underlying33 info_v rfl (by decide) _ 0 [] rfl HO.out (some a) n c (fl xs) rfl HR.out HM.out (by intro h; cases h) (fl_one _) (by unfold maxLen; omega) (by omega) (by simp) ?_; intro A2 c2 w6 o2 g2 b2 n2; simp only [Nat.zero_add, List.nil_append] at o2; have HO2 := Lib.hid o2; have HL6 := Lib.hid (Later.of (HL.out.below.trans b2)); have HN2 := Lib.hid n2; clear o2 g2 b2 n2))
    all_goals (try go_wp2_with fail)
    go_ret
    rw [HN.out] at HO2
    exact ⟨A2, c2, by rw [← HN.out]; rfl, HO2.out, HN2.out, HL6.out⟩

theorem own_capG {w : World} {base : Nat} {e : TypeId} {size n cap g : Nat} {xs : List Value} (h : w.ownsRow base e size (.slice (some ⟨g, 0, none⟩) n cap) n xs) : n ≤ cap ∧ cap ≤ maxLen ∧ base ≤ g ∧ g < w.heap.size ∧ ∀ j, j < cap * size → (w.cell? ⟨g, j, none⟩).isSome = true := by
  have hlt := h.lt g rfl
  rcases h.2 with ⟨hv, _⟩ | ⟨g', c, cur, hv, hb, hg, hnc, hcm, hcs, ht⟩
  · cases hv
  · injection hv with e1 e2 e3
    injection e1 with e1
    injection e1 with e1
    subst e1 e3
    refine ⟨hnc, hcm, hlt.1, hlt.2, fun j hj => ?_⟩
    rw [cell_of_row w g j cur e (0, 0) hg, Array.getElem?_eq_getElem (by omega)]; rfl

set_option maxRecDepth 100000 in
set_option maxHeartbeats 2000000 in
theorem delete1_any (base g n c i : Nat) (xs : List Val3) (w : World) (ho : w.ownsRow base 29 3 (.slice (some ⟨g, 0, none⟩) n c) n (fl xs)) (hn : n = xs.length) (hi : i < n) (hl : n ≤ 1000) :
    Calls Tryd.prog 70 #[.slice (some ⟨g, 0, none⟩) n c, .int .i64 i, .int .i64 ((i : Int) + 1)] w
      fun e w' => e = .returned (.slice (some ⟨g, 0, none⟩) (n - 1) c) ∧ w'.ownsRow base 29 3 (.slice (some ⟨g, 0, none⟩) (n - 1) c) (n - 1) (fl (xs.eraseIdx i)) ∧ w.grownBy w' (some g) := by
  obtain ⟨hnc, hcm, hbg, hgl, hcell⟩ := own_capG ho
  have hm : c ≤ 9223372036854775807 := by unfold maxLen at hcm; omega
  obtain ⟨i0, hi0, hz0, hz1, hz2⟩ := info_parts info_v
  obtain ⟨news, hnews⟩ : ∃ news, news = fl (xs.drop (i + 1)) := ⟨_, rfl⟩
  have hlen : news.length = (n - (i + 1)) * 3 := by rw [hnews, fl_length, List.length_drop, hn]
  obtain ⟨A, hA, hsrc⟩ : ∃ A : Addr, (if c = i + 1 then (some ⟨g, 0, none⟩ : Option Addr) else some ⟨g, (i + 1) * 3, none⟩) = some A ∧ Hid (∀ t u, news[t]? = some u → w.drew.cell? (A.add t) = some u) := by
    by_cases h : c = i + 1
    · refine ⟨⟨g, 0, none⟩, by rw [if_pos h], fun t u hu => ?_⟩
      have h0 : news.length = 0 := by rw [hlen]; omega
      rw [List.length_eq_zero_iff.1 h0] at hu
      simp at hu
    · refine ⟨⟨g, (i + 1) * 3, none⟩, by rw [if_neg h], fun t u hu => ?_⟩
      have ht : t < (n - (i + 1)) * 3 := by
        have := (List.getElem?_eq_some_iff.1 hu).1
        rwa [hlen] at this
      rw [add_plain]
      have h2 := ho.cellAt ((i + 1) * 3 + t) (by omega)
      show w.cell? _ = _
      rw [h2, ← hu, hnews, fl_drop, List.getElem?_drop]
  have s1 : Hid (news.length = (n - (i + 1)) * 3) := hlen
  have s2 : Hid (∀ u ∈ news, u.oneCell' = true) := by rw [hnews]; exact fl_one _
  have s3 : Hid (∀ t, t < news.length → (w.drew.cell? ⟨g, 0 + i * 3 + t, none⟩).isSome = true ∧ w.drew.frozen? ⟨g, 0 + i * 3 + t, none⟩ = false) := by
    intro t ht
    rw [hlen] at ht
    exact ⟨hcell _ (by omega), ho.frozenAt _⟩
  obtain ⟨W1, hW1⟩ : ∃ W1, W1 = w.drew.setCells g (0 + i * 3) news := ⟨_, rfl⟩
  obtain ⟨o1, g1⟩ := own_setCells (size := 3) news (i * 3) (fl xs) w.drew ho
  rw [← Nat.zero_add (i * 3), ← hW1] at o1 g1
  have O1 := Lib.hid o1
  have hcl : ∀ ty, (Builtin.clear_ #[33] ty #[.slice (some ⟨g, (i + (n - (i + 1))) * 3, none⟩) 1 (c - (i + (n - (i + 1))))]).run Tryd.prog W1 = .ok (.tuple #[]) (W1.setCells g ((i + (n - (i + 1))) * 3) [.int .i64 0, .int .i64 0, .string ⟨#[]⟩]) := fun ty =>
    run_clear1 (P := Tryd.prog) W1 33 29 ty (vagg 0 0 ⟨#[]⟩) Tryd.underlying33 Tryd.zeroValue29 [.int .i64 0, .int .i64 0, .string ⟨#[]⟩] rfl (by simp [Value.oneCell']) g _ _
      (fun j hj => by
        have := (own_capG O1.out).2.2.2.2 ((i + (n - (i + 1))) * 3 + j) (by simp at hj; omega)
        exact this)
      (fun j hj => O1.out.frozenAt _)
  have hW : Hid (W1 = w.drew.setCells g (0 + i * 3) news) := hW1
  have hic : i ≤ c := by omega
  have hjc : i + 1 ≤ c := by omega
  have hwi : IntKind.i64.wrap ((i : Int) + 1) = (i : Int) + 1 := IntWalk.i64_in _ ⟨by omega, by omega⟩
  have hne : ((i : Int) == (i : Int) + 1) = false := by simp; omega
  have HOF := Lib.hid ho
  have HN := Lib.hid hn
  have HFIN := Lib.hid (show ∀ z : List Value, z.length = 3 → (setL (setL (fl xs) (0 + i * 3) news) ((n - 1) * 3) z).take ((n - 1) * 3) = fl (xs.eraseIdx i) from fun z hz => by
    rw [hnews, hn, Nat.zero_add]; exact fl_del xs i (by omega) z hz)
  have HG1 := Lib.hid (show w.grownBy W1 (some g) from only_trans (only_drew (World.grownBy.refl _ _)) g1)
  have hni : n - (i + (n - (i + 1))) = 1 := by omega
  have hb1 : 0 ≤ (i : Int) + 1 := by omega
  have hb2 : (i : Int) + 1 ≤ (n : Int) := by omega
  have hb3 : i + (n - (i + 1)) ≤ n := by omega
  have hb4 : i + (n - (i + 1)) ≠ c := by omega
  clear hW1 hnews hlen hcell ho o1 hn g1
  go_enter Tryd.func70, Tryd.ntmps70
  go_wp2_with fail
  go_region_law (refine step_append_room rfl (.tmp 22) (.tmp 25) 33 rfl 29 i0 3 Tryd.underlying33 hi0 hz1 g 0 i c (by simp [Act.eval, Act.put]) A (n - (i + 1)) (c - (i + 1)) news (by simp [Act.eval, Act.put]) s1.out hsrc.out s2.out (by omega) s3.out ?_; rw [← hW.out])
  go_wp2_with fail
  go_ret
  have en : i + (n - (i + 1)) = n - 1 := by omega
  obtain ⟨o2, g2⟩ := own_setCells (size := 3) [.int .i64 0, .int .i64 0, .string ⟨#[]⟩] ((n - 1) * 3) _ _ O1.out
  have o3 := own_cut o2 (Nat.sub_le n 1)
  rw [HFIN.out _ rfl] at o3
  rw [en]
  exact ⟨rfl, o3, only_trans HG1.out g2⟩
end Go.Proofs.YtklohbglkbhjhaaDoor
