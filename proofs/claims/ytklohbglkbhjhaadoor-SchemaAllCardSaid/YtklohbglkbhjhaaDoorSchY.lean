/- schema: apply, fresh.Schema, fresh.Layout, tell, Apply. (tools/gen_schY.py) -/
import Derived.Test.YtklohbglkbhjhaaDoorSchW
import Derived.Test.YtklohbglkbhjhaaDoorIs
namespace Go.Proofs.YtklohbglkbhjhaaDoor
open Go.RowKit
set_option linter.unusedVariables false

set_option maxRecDepth 100000 in
set_option maxHeartbeats 4000000 in
theorem turnApply_any (W0 : World) (p : Nat) (w : World) (f : Int → Addr) (s : St3) (c : Chg) (gv vc ge ec : Nat) (hs : S15 W0 f) (hl : Later W0 w) (T : TS W0.heap.size p w s c gv vc ge ec) (hnm : c.name.size ≤ 9223372036854775807) (h3 : S3 W0) :
    Calls Tryd.prog 41 #[.pointer (some ⟨p, 0, none⟩)] w (TurnP W0 p f (changeM s c)) := by
  have k0 := cell_regrown T.d0
  have k1 := cell_regrown T.d1
  have k7 := cell_regrown T.d7
  have hsm := T.small
  have HFQ := Lib.hid (byID_q (some ⟨gv, 0, none⟩) s.1.length vc s.2.1 s.1 c.col w rfl (by omega) (Has.ownG T.cols))
  have HT := Lib.hid T
  have HS := Lib.hid hs
  have H3 := Lib.hid h3
  have HL := Lib.hid hl
  have HNM := Lib.hid hnm
  clear hs hl T hnm h3
  go_enter Tryd.func41, Tryd.ntmps41
  go_wp2_with fail
  refine wp_region_quiet_below (by kernel_rfl) (by kernel_rfl) ?_
  repeat (quiet_step (exact HFQ.out _ _))
  refine wpQuiet_nil ?_
  intro _ hw'
  obtain ⟨⟨dq, osq⟩, hw''⟩ := hw'
  subst hw''
  have l2 := below_regrown w dq osq
  generalize Go.Sort.grow (redrawn w dq) osq = w2 at l2
  have HT2 := Lib.hid (HT.out.later l2)
  have HL2 := Lib.hid (HL.out.trans l2)
  have HS2 := Lib.hid (HS.out.later HL2.out)
  have d6 := HT2.out.d6
  have d7 := HT2.out.d7
  have x1 := HS2.out.c1
  have x3 := HS2.out.c3
  clear k0 k1 k7 HFQ l2 HT HL
  by_cases hk : c.kind = 2 ∨ c.kind = 3 ∨ c.kind = 4 ∨ c.kind = 5 ∨ c.kind = 9
  · have HM := Lib.hid (changeM_col (s := s) hk)
    rcases hfi : findI s.1 c.col with _ | i
    · have HX := Lib.hid (show changeM s c = .error 3 from by rw [HM.out, hfi])
      simp only [Option.getD_none, Option.isSome_none]
      clear HM hfi HT2 HS2
      rcases hk with hk | hk | hk | hk | hk
      · rw [hk] at d6
        clear hk
        go_wp2_with fail
        go_region_law (go_simp; go_at_call 60; refine (at_er _ _ _ _).mono ?_; rintro e w3 ⟨v, rfl, hv, l3⟩; have HV := Lib.hid hv; have HL3 := Lib.hid (HL2.out.drew.trans l3); clear hv l3)
        all_goals (try go_wp2_with fail)
        all_goals go_ret
        all_goals exact TurnP.no 3 HX.out (by decide) HV.out HL3.out
      · rw [hk] at d6
        clear hk
        go_wp2_with fail
        go_region_law (go_simp; go_at_call 60; refine (at_er _ _ _ _).mono ?_; rintro e w3 ⟨v, rfl, hv, l3⟩; have HV := Lib.hid hv; have HL3 := Lib.hid (HL2.out.drew.trans l3); clear hv l3)
        all_goals (try go_wp2_with fail)
        all_goals go_ret
        all_goals exact TurnP.no 3 HX.out (by decide) HV.out HL3.out
      · rw [hk] at d6
        clear hk
        go_wp2_with fail
        go_region_law (go_simp; go_at_call 60; refine (at_er _ _ _ _).mono ?_; rintro e w3 ⟨v, rfl, hv, l3⟩; have HV := Lib.hid hv; have HL3 := Lib.hid (HL2.out.drew.trans l3); clear hv l3)
        all_goals (try go_wp2_with fail)
        all_goals go_ret
        all_goals exact TurnP.no 3 HX.out (by decide) HV.out HL3.out
      · rw [hk] at d6
        clear hk
        go_wp2_with fail
        go_region_law (go_simp; go_at_call 60; refine (at_er _ _ _ _).mono ?_; rintro e w3 ⟨v, rfl, hv, l3⟩; have HV := Lib.hid hv; have HL3 := Lib.hid (HL2.out.drew.trans l3); clear hv l3)
        all_goals (try go_wp2_with fail)
        all_goals go_ret
        all_goals exact TurnP.no 3 HX.out (by decide) HV.out HL3.out
      · rw [hk] at d6
        clear hk
        go_wp2_with fail
        go_region_law (go_simp; go_at_call 60; refine (at_er _ _ _ _).mono ?_; rintro e w3 ⟨v, rfl, hv, l3⟩; have HV := Lib.hid hv; have HL3 := Lib.hid (HL2.out.drew.trans l3); clear hv l3)
        all_goals (try go_wp2_with fail)
        all_goals go_ret
        all_goals exact TurnP.no 3 HX.out (by decide) HV.out HL3.out
    · simp only [Option.getD_some, Option.isSome_some]
      obtain ⟨hil, _⟩ := findI_lt hfi
      have HC := Lib.hid (change_any W0 p w2 f s c gv vc ge ec i HS.out HL2.out HT2.out hil HNM.out H3.out hk)
      have HX := Lib.hid (show changeM s c = colM s c i from by rw [HM.out, hfi])
      clear HM hfi HT2 HS2 H3 HNM
      rcases hk with hk | hk | hk | hk | hk
      · rw [hk] at d6
        clear hk
        go_wp2_with fail
        refine HC.out.mono ?_
        intro e w3 h2
        rw [← HX.out] at h2
        have H2 := Lib.hid h2
        obtain ⟨l2, ⟨n, v, h1, hn, rfl, he⟩ | ⟨s', c', g1, g2, g3, g4, h1, rfl, ht⟩⟩ := h2
        · clear l2 h1 hn he HC
          go_wp2_with fail
          go_ret
          exact H2.out
        · clear l2 h1 ht HC
          go_wp2_with fail
          go_ret
          exact H2.out
      · rw [hk] at d6
        clear hk
        go_wp2_with fail
        refine HC.out.mono ?_
        intro e w3 h2
        rw [← HX.out] at h2
        have H2 := Lib.hid h2
        obtain ⟨l2, ⟨n, v, h1, hn, rfl, he⟩ | ⟨s', c', g1, g2, g3, g4, h1, rfl, ht⟩⟩ := h2
        · clear l2 h1 hn he HC
          go_wp2_with fail
          go_ret
          exact H2.out
        · clear l2 h1 ht HC
          go_wp2_with fail
          go_ret
          exact H2.out
      · rw [hk] at d6
        clear hk
        go_wp2_with fail
        refine HC.out.mono ?_
        intro e w3 h2
        rw [← HX.out] at h2
        have H2 := Lib.hid h2
        obtain ⟨l2, ⟨n, v, h1, hn, rfl, he⟩ | ⟨s', c', g1, g2, g3, g4, h1, rfl, ht⟩⟩ := h2
        · clear l2 h1 hn he HC
          go_wp2_with fail
          go_ret
          exact H2.out
        · clear l2 h1 ht HC
          go_wp2_with fail
          go_ret
          exact H2.out
      · rw [hk] at d6
        clear hk
        go_wp2_with fail
        refine HC.out.mono ?_
        intro e w3 h2
        rw [← HX.out] at h2
        have H2 := Lib.hid h2
        obtain ⟨l2, ⟨n, v, h1, hn, rfl, he⟩ | ⟨s', c', g1, g2, g3, g4, h1, rfl, ht⟩⟩ := h2
        · clear l2 h1 hn he HC
          go_wp2_with fail
          go_ret
          exact H2.out
        · clear l2 h1 ht HC
          go_wp2_with fail
          go_ret
          exact H2.out
      · rw [hk] at d6
        clear hk
        go_wp2_with fail
        refine HC.out.mono ?_
        intro e w3 h2
        rw [← HX.out] at h2
        have H2 := Lib.hid h2
        obtain ⟨l2, ⟨n, v, h1, hn, rfl, he⟩ | ⟨s', c', g1, g2, g3, g4, h1, rfl, ht⟩⟩ := h2
        · clear l2 h1 hn he HC
          go_wp2_with fail
          go_ret
          exact H2.out
        · clear l2 h1 ht HC
          go_wp2_with fail
          go_ret
          exact H2.out
  by_cases hk1 : c.kind = 1
  · have hlz : (s.1.length : Int) - 1 = ((s.1.length - 1 : Nat) : Int) := by omega
    have hwl : IntKind.i64.wrap ((s.1.length : Int) - 1) = ((s.1.length - 1 : Nat) : Int) := by rw [hlz]; exact IntWalk.i64_in _ ⟨by omega, by omega⟩
    have HC := Lib.hid (changeAdd_any W0 p w2 f s c gv vc ge ec (s.1.length - 1) HS.out HL2.out HT2.out (by omega) HNM.out H3.out hk1)
    have HX := Lib.hid (show changeM s c = addM s c c.typ c.val s.1.length from by unfold changeM; rw [if_pos hk1])
    have d0 := HT2.out.d0
    rw [hk1] at d6
    clear hk hk1 HT2 HS2 H3 HNM
    go_wp2_with fail
    refine HC.out.mono ?_
    intro e w3 h2
    rw [← HX.out] at h2
    have H2 := Lib.hid h2
    obtain ⟨l2, ⟨n, v, h1, hn, rfl, he⟩ | ⟨s', c', g1, g2, g3, g4, h1, rfl, ht⟩⟩ := h2
    · clear l2 h1 hn he HC
      go_wp2_with fail
      go_ret
      exact H2.out
    · clear l2 h1 ht HC
      go_wp2_with fail
      go_ret
      exact H2.out
  by_cases hk6 : c.kind = 6
  · have HC := Lib.hid (resort_any W0 p w2 f s c gv vc ge ec HS.out HL2.out HT2.out)
    have HX := Lib.hid (show changeM s c = resortM s c from by unfold changeM; rw [if_neg hk1, if_pos hk6])
    rw [hk6] at d6
    clear hk hk1 hk6 HT2 HS2 H3 HNM
    go_wp2_with fail
    refine HC.out.mono ?_
    intro e w3 h2
    rw [← HX.out] at h2
    have H2 := Lib.hid h2
    obtain ⟨l2, ⟨n, v, h1, hn, rfl, he⟩ | ⟨s', c', g1, g2, g3, g4, h1, rfl, ht⟩⟩ := h2
    · clear l2 h1 hn he HC
      go_wp2_with fail
      go_ret
      exact H2.out
    · clear l2 h1 ht HC
      go_wp2_with fail
      go_ret
      exact H2.out
  by_cases hk7 : c.kind = 7
  · have HC := Lib.hid (repart_any W0 p w2 f s c gv vc ge ec HS.out HL2.out HT2.out)
    have HX := Lib.hid (show changeM s c = repartM s c from by unfold changeM; rw [if_neg hk1, if_neg hk6, if_pos hk7])
    rw [hk7] at d6
    clear hk hk1 hk6 hk7 HT2 HS2 H3 HNM
    go_wp2_with fail
    refine HC.out.mono ?_
    intro e w3 h2
    rw [← HX.out] at h2
    have H2 := Lib.hid h2
    obtain ⟨l2, ⟨n, v, h1, hn, rfl, he⟩ | ⟨s', c', g1, g2, g3, g4, h1, rfl, ht⟩⟩ := h2
    · clear l2 h1 hn he HC
      go_wp2_with fail
      go_ret
      exact H2.out
    · clear l2 h1 ht HC
      go_wp2_with fail
      go_ret
      exact H2.out
  by_cases hk8 : c.kind = 8
  · have HX := Lib.hid (show changeM s c = .ok s from by unfold changeM; rw [if_neg hk1, if_neg hk6, if_neg hk7, if_pos hk8])
    rw [hk8] at d6
    clear hk hk1 hk6 hk7 hk8 HS2 H3 HNM
    go_wp2_with fail
    go_ret
    exact TurnP.yes HX.out HT2.out HL2.out
  have HX := Lib.hid (show changeM s c = .error 1 from by unfold changeM; rw [if_neg hk1, if_neg hk6, if_neg hk7, if_neg hk8, if_neg hk])
  have g2 : ¬ c.kind = 2 := fun h => hk (.inl h)
  have g3 : ¬ c.kind = 3 := fun h => hk (.inr (.inl h))
  have g4 : ¬ c.kind = 4 := fun h => hk (.inr (.inr (.inl h)))
  have g5 : ¬ c.kind = 5 := fun h => hk (.inr (.inr (.inr (.inl h))))
  have g9 : ¬ c.kind = 9 := fun h => hk (.inr (.inr (.inr (.inr h))))
  clear hk HT2 HS2 H3 HNM
  go_wp2_with fail
  go_region_law (go_simp; go_at_call 60; refine (at_er _ _ _ _).mono ?_; rintro e w3 ⟨v, rfl, hv, l3⟩; have HV := Lib.hid hv; have HL3 := Lib.hid (HL2.out.drew.trans l3); clear hv l3)
  all_goals (try go_wp2_with fail)
  all_goals go_ret
  all_goals exact TurnP.no 1 HX.out (by decide) HV.out HL3.out

theorem own_weak {w : World} {base base' : Nat} {e : TypeId} {k : Nat} {v : Value} {n : Nat} {xs : List Value} (h : w.ownsRow base e k v n xs) (hb : base' ≤ base) : w.ownsRow base' e k v n xs := by
  obtain ⟨h1, h2⟩ := h
  refine ⟨h1, ?_⟩
  rcases h2 with h2 | ⟨q, cap, cur, rfl, hq, hrest⟩
  · exact .inl h2
  · exact .inr ⟨q, cap, cur, rfl, Nat.le_trans hb hq, hrest⟩
/-- What fresh.Schema gives. -/
def FrS (l : List Col3) (last : Int) (w : World) (e : Ending) (w' : World) : Prop :=
  ∃ A c, e = .returned (.agg #[.slice A l.length c, .int .i64 last]) ∧ w'.ownsRow w.heap.size 59 3 (.slice A l.length c) l.length (fc l) ∧ (A = none → c = 0) ∧ Later w w'
def FrL (m : Lay4) (w : World) (e : Ending) (w' : World) : Prop :=
  ∃ A c, e = .returned (lagg m A m.enc.length c) ∧ w'.ownsRow w.heap.size 3 1 (.slice A m.enc.length c) m.enc.length (ein m.enc) ∧ (A = none → c = 0) ∧ Later w w'
set_option maxRecDepth 100000 in
set_option maxHeartbeats 4000000 in
theorem freshS_any (A : Option Addr) (n c : Nat) (last : Int) (l : List Col3) (w : World) (hn : n = l.length) (hl : n ≤ 1000) (hr : Has w A (fc l)) (hnil : A = none → c = 0) :
    Calls Tryd.prog 39 #[.agg #[.slice A n c, .int .i64 last]] w (FrS l last w) := by
  subst hn
  obtain ⟨q, hq⟩ : ∃ x, w.heap.size = x := ⟨_, rfl⟩
  obtain ⟨w1, hw1⟩ : ∃ x : World, (w.alloc (.cells #[.slice A l.length c, .int .i64 last] 24)).alloc (.cells #[.slice none 0 0, .int .i64 0] 24) = x := ⟨_, rfl⟩
  have l1 : Later w w1 := hw1 ▸ (Later.new w _).alloc _
  have b1 : Blk w1 q #[.slice A l.length c, .int .i64 last] 24 := hw1 ▸ (Blk.new w _ _ _ hq.symm).later (Later.new _ _)
  have b2 : Blk w1 (q + 1) #[.slice none 0 0, .int .i64 0] 24 := hw1 ▸ Blk.new _ _ _ _ (by simp; omega)
  have e0 := b1.cell 0 _ rfl
  have HB1 := Lib.hid b1
  have HB2 := Lib.hid b2
  have HQ := Lib.hid hq
  have HL := Lib.hid l1
  have HC := Lib.hid (clone_anyC A l.length c l w1 rfl hl (hr.later l1) hnil)
  have HW1 := Lib.hid hw1
  clear hr hnil l1 b1 b2
  go_enter Tryd.func39, Tryd.ntmps39
  go_wp2_with fail
  refine HC.out.mono ?_
  rintro e w2 ⟨A2, c2, rfl, o2, n2, l2⟩
  have hb1 := HB1.out.later l2
  have hb2 := HB2.out.later l2
  have e0 := hb1.cell 0 _ rfl
  have f0 := hb1.frozen 0
  obtain ⟨w3, hw3⟩ : ∃ x, w2.setCell ⟨q, 0, none⟩ (.slice A2 l.length c2) = x := ⟨_, rfl⟩
  have hb3 : Blk w3 q #[.slice A2 l.length c2, .int .i64 last] 24 := hw3 ▸ hb1.set_ 0 _
  have hb4 : Blk w3 (q + 1) #[.slice none 0 0, .int .i64 0] 24 := hw3 ▸ hb2.far (by show q + 1 ≠ q; omega) _
  have s0 := hb3.cell 0 _ rfl
  have s1 := hb3.cell 1 _ rfl
  have t0 := hb4.cell 0 _ rfl
  have t1 := hb4.cell 1 _ rfl
  have ft0 := hb4.frozen 0
  have ft1 := hb4.frozen 1
  have O3 := Lib.hid (show w3.ownsRow w1.heap.size 59 3 (.slice A2 l.length c2) l.length (fc l) from hw3 ▸ own_setFar o2 (by have := HB1.out.lt; exact this) _)
  obtain ⟨w4, hw4⟩ : ∃ x, w3.setCell ⟨q + 1, 0, none⟩ (.slice A2 l.length c2) = x := ⟨_, rfl⟩
  obtain ⟨w5, hw5⟩ : ∃ x, w4.setCell ⟨q + 1, 1, none⟩ (.int .i64 last) = x := ⟨_, rfl⟩
  have hb5 : Blk w4 (q + 1) #[.slice A2 l.length c2, .int .i64 0] 24 := hw4 ▸ hb4.set_ 0 _
  have hb6 : Blk w5 (q + 1) #[.slice A2 l.length c2, .int .i64 last] 24 := hw5 ▸ hb5.set_ 1 _
  have u1 := hb5.cell 1 _ rfl
  have fu1 := hb5.frozen 1
  have r0 := hb6.cell 0 _ rfl
  have r1 := hb6.cell 1 _ rfl
  have O5 := Lib.hid (show w5.ownsRow w1.heap.size 59 3 (.slice A2 l.length c2) l.length (fc l) from hw5 ▸ hw4 ▸ own_setFar (own_setFar O3.out (by have := HB2.out.lt; exact this) _) (by have := HB2.out.lt; exact this) _)
  have HL5 := Lib.hid (show Later w w5 from hw5 ▸ hw4 ▸ hw3 ▸ (((HL.out.trans l2).set_ (by rw [HQ.out]; exact Nat.le_refl _) _).set_ (by rw [HQ.out]; exact Nat.le_succ _) _).set_ (by rw [HQ.out]; exact Nat.le_succ _) _)
  have HN2 := Lib.hid n2
  clear o2 n2 l2 hb1 hb2 hb3 hb4 hb5 hb6 HC hw1
  go_wp2_with fail
  exact bodyPost_ret (v := .agg #[.slice A2 l.length c2, .int .i64 last]) (by simp [results, Tryd.results39, go_sem, r0, r1]) rfl ⟨A2, c2, rfl, own_weak O5.out HL.out.size, HN2.out, HL5.out⟩
set_option maxRecDepth 100000 in
set_option maxHeartbeats 4000000 in
theorem freshL_any (E : Option Addr) (n c : Nat) (m : Lay4) (w : World) (hn : n = m.enc.length) (hl : n ≤ 1000) (hr : Has w E (ein m.enc)) (hnil : E = none → c = 0) :
    Calls Tryd.prog 40 #[lagg m E n c] w (FrL m w) := by
  subst hn
  obtain ⟨sb, pb, parts, enc⟩ := m
  unfold lagg
  dsimp only at hr hl ⊢
  obtain ⟨q, hq⟩ : ∃ x, w.heap.size = x := ⟨_, rfl⟩
  obtain ⟨w1, hw1⟩ : ∃ x : World, (w.alloc (.cells #[.int .i64 sb, .int .i64 pb, .int .i64 parts, .slice E enc.length c] 27)).alloc (.cells #[.int .i64 0, .int .i64 0, .int .i64 0, .slice none 0 0] 27) = x := ⟨_, rfl⟩
  have l1 : Later w w1 := hw1 ▸ (Later.new w _).alloc _
  have b1 : Blk w1 q #[.int .i64 sb, .int .i64 pb, .int .i64 parts, .slice E enc.length c] 27 := hw1 ▸ (Blk.new w _ _ _ hq.symm).later (Later.new _ _)
  have b2 : Blk w1 (q + 1) #[.int .i64 0, .int .i64 0, .int .i64 0, .slice none 0 0] 27 := hw1 ▸ Blk.new _ _ _ _ (by simp; omega)
  have e3 := b1.cell 3 _ rfl
  have HB1 := Lib.hid b1
  have HB2 := Lib.hid b2
  have HQ := Lib.hid hq
  have HL := Lib.hid l1
  have HC := Lib.hid (clone_anyI E enc.length c enc w1 rfl hl (hr.later l1) hnil)
  clear hr hnil l1 b1 b2
  go_enter Tryd.func40, Tryd.ntmps40
  go_wp2_with fail
  refine HC.out.mono ?_
  rintro e w2 ⟨A2, c2, rfl, o2, n2, l2⟩
  have hb1 := HB1.out.later l2
  have hb2 := HB2.out.later l2
  have e3 := hb1.cell 3 _ rfl
  have f3 := hb1.frozen 3
  obtain ⟨w3, hw3⟩ : ∃ x, w2.setCell ⟨q, 3, none⟩ (.slice A2 enc.length c2) = x := ⟨_, rfl⟩
  have hb3 : Blk w3 q #[.int .i64 sb, .int .i64 pb, .int .i64 parts, .slice A2 enc.length c2] 27 := hw3 ▸ hb1.set_ 3 _
  have hb4 : Blk w3 (q + 1) #[.int .i64 0, .int .i64 0, .int .i64 0, .slice none 0 0] 27 := hw3 ▸ hb2.far (by show q + 1 ≠ q; omega) _
  have s0 := hb3.cell 0 _ rfl
  have s1 := hb3.cell 1 _ rfl
  have s2 := hb3.cell 2 _ rfl
  have s3 := hb3.cell 3 _ rfl
  have t0 := hb4.cell 0 _ rfl
  have ft0 := hb4.frozen 0
  have O3 := Lib.hid (show w3.ownsRow w1.heap.size 3 1 (.slice A2 enc.length c2) enc.length (ein enc) from hw3 ▸ own_setFar o2 (by have := HB1.out.lt; exact this) _)
  obtain ⟨w4, hw4⟩ : ∃ x, w3.setCell ⟨q + 1, 0, none⟩ (.int .i64 sb) = x := ⟨_, rfl⟩
  obtain ⟨w5, hw5⟩ : ∃ x, w4.setCell ⟨q + 1, 1, none⟩ (.int .i64 pb) = x := ⟨_, rfl⟩
  obtain ⟨w6, hw6⟩ : ∃ x, w5.setCell ⟨q + 1, 2, none⟩ (.int .i64 parts) = x := ⟨_, rfl⟩
  obtain ⟨w7, hw7⟩ : ∃ x, w6.setCell ⟨q + 1, 3, none⟩ (.slice A2 enc.length c2) = x := ⟨_, rfl⟩
  have hb5 : Blk w4 (q + 1) #[.int .i64 sb, .int .i64 0, .int .i64 0, .slice none 0 0] 27 := hw4 ▸ hb4.set_ 0 _
  have hb6 : Blk w5 (q + 1) #[.int .i64 sb, .int .i64 pb, .int .i64 0, .slice none 0 0] 27 := hw5 ▸ hb5.set_ 1 _
  have hb7 : Blk w6 (q + 1) #[.int .i64 sb, .int .i64 pb, .int .i64 parts, .slice none 0 0] 27 := hw6 ▸ hb6.set_ 2 _
  have hb8 : Blk w7 (q + 1) #[.int .i64 sb, .int .i64 pb, .int .i64 parts, .slice A2 enc.length c2] 27 := hw7 ▸ hb7.set_ 3 _
  have u1 := hb5.cell 1 _ rfl
  have fu1 := hb5.frozen 1
  have u2 := hb6.cell 2 _ rfl
  have fu2 := hb6.frozen 2
  have u3 := hb7.cell 3 _ rfl
  have fu3 := hb7.frozen 3
  have r0 := hb8.cell 0 _ rfl
  have r1 := hb8.cell 1 _ rfl
  have r2 := hb8.cell 2 _ rfl
  have r3 := hb8.cell 3 _ rfl
  have hq1 := HB2.out.lt
  have O7 := Lib.hid (show w7.ownsRow w1.heap.size 3 1 (.slice A2 enc.length c2) enc.length (ein enc) from hw7 ▸ hw6 ▸ hw5 ▸ hw4 ▸ own_setFar (own_setFar (own_setFar (own_setFar O3.out hq1 _) hq1 _) hq1 _) hq1 _)
  have hqle : w.heap.size ≤ q + 1 := by rw [HQ.out]; exact Nat.le_succ _
  have HL7 := Lib.hid (show Later w w7 from hw7 ▸ hw6 ▸ hw5 ▸ hw4 ▸ hw3 ▸ (((((HL.out.trans l2).set_ (by rw [HQ.out]; exact Nat.le_refl _) _).set_ hqle _).set_ hqle _).set_ hqle _).set_ hqle _)
  have HN2 := Lib.hid n2
  clear o2 n2 l2 hb1 hb2 hb3 hb4 hb5 hb6 hb7 hb8 HC hw1 hq1 hqle
  go_wp2_with fail
  exact bodyPost_ret (v := .agg #[.int .i64 sb, .int .i64 pb, .int .i64 parts, .slice A2 enc.length c2]) (by simp [results, Tryd.results40, go_sem, r0, r1, r2, r3]) rfl ⟨A2, c2, rfl, own_weak O7.out HL.out.size, HN2.out, HL7.out⟩
end Go.Proofs.YtklohbglkbhjhaaDoor
