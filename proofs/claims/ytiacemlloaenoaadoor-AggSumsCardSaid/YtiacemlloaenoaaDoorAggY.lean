/- Law 24: closed texts, and the walk of begun. -/
import Derived.Test.YtiacemlloaenoaaDoorAggX
namespace Go.Proofs.YtiacemlloaenoaaDoor
open Go.RowKit
set_option linter.unusedVariables false

abbrev n2 (i : Int) : Val3 := (2, i, ⟨#[]⟩)
abbrev colB : List Val3 := [n2 1, n2 1, z3]
theorem begS : IsS (cmpBy [colB] [0]) 3 [2, 0, 1] := ⟨by decide, by decide⟩
theorem beg_groups {R : List (List Nat)} (h : GroupsOf [colB] [0] 3 R) : R = [[2], [0, 1]] := by
  rcases h with ⟨h, _⟩ | ⟨_, S, hS, rfl⟩
  · cases h
  · rw [IsS.one (cmpBy_turn [colB] [0]) hS begS]; rfl
theorem beg_run : runE [colB] [0] [(1, -1), (2, 0)] [[2], [0, 1]] = .ok [[z3, n2 1, z3], [n2 1, n2 2, n2 2]] := by rfl
theorem beg_run2 : runE [] [] [(1, -1)] [List.range 0] = .ok [[n2 0]] := by rfl
/-- Two rows. -/
theorem two_rows {rs : List SlV} {x y : List Val3} (h : rs.map (·.l) = [x, y]) : ∃ s t : SlV, rs = [s, t] ∧ s.l = x ∧ t.l = y := by
  rcases rs with _ | ⟨s, _ | ⟨t, _ | ⟨u, r⟩⟩⟩
  · cases h
  · cases h
  · refine ⟨s, t, rfl, ?_, ?_⟩
    · exact (List.cons.inj h).1
    · exact (List.cons.inj (List.cons.inj h).2).1
  · simp at h
theorem one_row {rs : List SlV} {x : List Val3} (h : rs.map (·.l) = [x]) : ∃ s : SlV, rs = [s] ∧ s.l = x := by
  rcases rs with _ | ⟨s, _ | ⟨t, r⟩⟩
  · cases h
  · exact ⟨s, rfl, (List.cons.inj h).1⟩
  · simp at h
/-- A row's value. -/
theorem RowsAt.val {w : World} {A : Option Addr} {ss : List SlV} (h : RowsAt w A ss) (k : Nat) (hk : k < ss.length) : ∃ b off, A = some ⟨b, off, none⟩ ∧ w.cell? ⟨b, off + k, none⟩ = some (.slice ss[k].a ss[k].l.length ss[k].c) ∧ Has w ss[k].a (fl ss[k].l) := by
  obtain ⟨b, off, h1, h2, h3, _⟩ := h.get k hk
  exact ⟨b, off, h1, h2, h3⟩

set_option maxRecDepth 100000 in
set_option maxHeartbeats 4000000 in
theorem begun24_any (a0 a1 a2 : Addr) (w : World) (hs : S24 w a0 a1 a2) : Calls Tryd.prog 4 #[] w fun e w' => e = .returned (.bool true) ∧ Later w w' := by
  obtain ⟨h0, hh0⟩ : ∃ x, w.heap.size = x := ⟨_, rfl⟩
  obtain ⟨w2, hw2⟩ : ∃ x : World, (((w.alloc (.cells #[.int .i64 2, .int .i64 1, .string ⟨#[]⟩, .int .i64 2, .int .i64 1, .string ⟨#[]⟩, .int .i64 0, .int .i64 0, .string ⟨#[]⟩] 40)).alloc (.cells #[.slice (some ⟨h0, 0, none⟩) 3 3] 37)).alloc (.cells #[.int .i64 0] 3)).alloc (.cells #[.int .i64 1, .int .i64 (-1), .int .i64 2, .int .i64 0] 42) = x := ⟨_, rfl⟩
  have l2 : Later w w2 := hw2 ▸ (((Later.new w _).alloc _).alloc _).alloc _
  have b0 : Blk w2 h0 #[.int .i64 2, .int .i64 1, .string ⟨#[]⟩, .int .i64 2, .int .i64 1, .string ⟨#[]⟩, .int .i64 0, .int .i64 0, .string ⟨#[]⟩] 40 := hw2 ▸ (Blk.new w _ _ _ hh0.symm).later (((Later.new _ _).alloc _).alloc _)
  have b1 : Blk w2 (h0 + 1) #[.slice (some ⟨h0, 0, none⟩) 3 3] 37 := hw2 ▸ (Blk.new _ _ _ _ (by simp; omega)).later ((Later.new _ _).alloc _)
  have b2 : Blk w2 (h0 + 2) #[.int .i64 0] 3 := hw2 ▸ (Blk.new _ _ _ _ (by simp; omega)).later (Later.new _ _)
  have b3 : Blk w2 (h0 + 3) #[.int .i64 1, .int .i64 (-1), .int .i64 2, .int .i64 0] 42 := hw2 ▸ Blk.new _ _ _ _ (by simp; omega)
  have HR2 := Lib.hid (show RowsAt w2 (some ⟨h0 + 1, 0, none⟩) [⟨some ⟨h0, 0, none⟩, 3, colB⟩] from ⟨b1.has, fun s hs => by
    rw [List.mem_singleton] at hs
    subst hs
    exact ⟨HasX.of b0.has, Nat.le_refl _, (by omega : (3 : Nat) ≤ 9223372036854775807), fun h => by cases h⟩⟩)
  have H64 := Lib.hid (show ∀ s ∈ ([⟨some ⟨h0, 0, none⟩, 3, colB⟩] : List SlV), ∀ x ∈ s.l, -9223372036854775808 ≤ x.2.1 ∧ x.2.1 ≤ 9223372036854775807 from fun s hs x hx => by
    rw [List.mem_singleton] at hs
    subst hs
    exact (show ∀ x ∈ colB, -9223372036854775808 ≤ x.2.1 ∧ x.2.1 ≤ 9223372036854775807 by decide) x hx)
  have HLN := Lib.hid (show ∀ s ∈ ([⟨some ⟨h0, 0, none⟩, 3, colB⟩] : List SlV), s.l.length ≤ 1000 from fun s hs => by
    rw [List.mem_singleton] at hs
    subst hs
    exact (show (3 : Nat) ≤ 1000 by omega))
  have HRUN1 := Lib.hid (aggRun_any (some ⟨h0 + 1, 0, none⟩) (some ⟨h0 + 2, 0, none⟩) (some ⟨h0 + 3, 0, none⟩) 1 1 1 1 2 2 [⟨some ⟨h0, 0, none⟩, 3, colB⟩] [0] [(1, -1), (2, 0)] a0 a1 a2 w2 (hs.later l2) rfl (by omega) rfl (by omega) rfl (by omega) HR2.out b2.has b3.has HLN.out (show (3 : Nat) ≤ 20 by omega) H64.out)
  have HS := Lib.hid hs
  have HL2 := Lib.hid l2
  have HW2 := Lib.hid hw2
  have hbase : w2.heap.size = h0 + 4 := by rw [← hw2, ← hh0]; simp
  clear hw2 l2 b0 b1 b2 b3 hs
  go_enter Tryd.func4, Tryd.ntmps4
  go_wp2_with fail
  rw [HW2.out]
  refine HRUN1.out.mono ?_
  rintro e w3 (⟨hbad, _⟩ | ⟨_, R, hgo, (⟨RA, rc, rs, rfl, hrun, hat, _, _, l3⟩ | ⟨nn, hrun, _⟩)⟩)
  · exact absurd (show RunOk 1 [0] [(1, -1), (2, 0)] from ⟨by decide, fun a ha => by
      simp only [List.mem_cons, List.not_mem_nil, or_false] at ha
      rcases ha with rfl | rfl <;> (unfold AggOk; decide)⟩) hbad
  rotate_left
  · have hR := beg_groups (show GroupsOf [colB] [0] 3 R from hgo)
    subst hR
    have h1 : runE [colB] [0] [(1, -1), (2, 0)] [[2], [0, 1]] = .error nn := hrun
    rw [beg_run] at h1
    cases h1
  · have hR := beg_groups (show GroupsOf [colB] [0] 3 R from hgo)
    subst hR
    have h1 : runE [colB] [0] [(1, -1), (2, 0)] [[2], [0, 1]] = .ok (rs.map (·.l)) := hrun
    rw [beg_run] at h1
    injection h1 with h1
    obtain ⟨s, t, rfl, hsl, htl⟩ := two_rows h1.symm
    clear hgo hrun h1 HRUN1
    obtain ⟨w4, hw4⟩ : ∃ x : World, w3.alloc (.cells #[.int .i64 1, .int .i64 (-1)] 42) = x := ⟨_, rfl⟩
    obtain ⟨h3, hh3⟩ : ∃ x, w3.heap.size = x := ⟨_, rfl⟩
    have l4 : Later w3 w4 := hw4 ▸ Later.new _ _
    have b4 : Blk w4 h3 #[.int .i64 1, .int .i64 (-1)] 42 := hw4 ▸ Blk.new _ _ _ _ hh3.symm
    have HRUN2 := Lib.hid (aggRun_any none none (some ⟨h3, 0, none⟩) 0 0 0 0 1 1 [] [] [(1, -1)] a0 a1 a2 w4 (HS.out.later (HL2.out.trans (l3.trans l4))) rfl (by omega) rfl (by omega) rfl (by omega) ⟨.inl rfl, fun s hs => by cases hs⟩ (.inl rfl) b4.has (fun s hs => by cases hs) (by decide) (fun s hs => by cases hs))
    have HL4 := Lib.hid (HL2.out.trans (l3.trans l4))
    have HR4 := Lib.hid (HR2.out.later (l3.trans l4))
    have HAT4 := Lib.hid (hat.later l4)
    clear l3 l4 b4 hat
    go_wp2_with fail
    refine HRUN2.out.mono ?_
    rintro e w5 (⟨hbad, _⟩ | ⟨_, R, hgo, (⟨RB, rbc, rs2, rfl, hrun, hat, _, _, l5⟩ | ⟨nn, hrun, _⟩)⟩)
    · exact absurd (show RunOk 0 [] [(1, -1)] from ⟨by decide, fun a ha => by
        rw [List.mem_singleton] at ha
        subst ha
        unfold AggOk; decide⟩) hbad
    rotate_left
    · have hR : R = [List.range 0] := by
        rcases hgo with ⟨_, h⟩ | ⟨h, _⟩
        · exact h
        · exact absurd rfl h
      subst hR
      have h1 : runE [] [] [(1, -1)] [List.range 0] = .error nn := hrun
      rw [beg_run2] at h1
      cases h1
    · have hR : R = [List.range 0] := by
        rcases hgo with ⟨_, h⟩ | ⟨h, _⟩
        · exact h
        · exact absurd rfl h
      subst hR
      have h1 : runE [] [] [(1, -1)] [List.range 0] = .ok (rs2.map (·.l)) := hrun
      rw [beg_run2] at h1
      injection h1 with h1
      obtain ⟨u, rfl, hul⟩ := one_row h1.symm
      clear hgo hrun h1 HRUN2
      obtain ⟨w6, hw6⟩ : ∃ x : World, w5.alloc (.cells #[.int .i64 5] 3) = x := ⟨_, rfl⟩
      obtain ⟨h5, hh5⟩ : ∃ x, w5.heap.size = x := ⟨_, rfl⟩
      have l6 : Later w5 w6 := hw6 ▸ Later.new _ _
      have b6 : Blk w6 h5 #[.int .i64 5] 3 := hw6 ▸ Blk.new _ _ _ _ hh5.symm
      have HRUN3 := Lib.hid (aggRun_any (some ⟨h0 + 1, 0, none⟩) (some ⟨h5, 0, none⟩) none 1 1 1 1 0 0 [⟨some ⟨h0, 0, none⟩, 3, colB⟩] [5] [] a0 a1 a2 w6 (HS.out.later (HL4.out.trans (l5.trans l6))) rfl (by omega) rfl (by omega) rfl (by omega) (HR4.out.later (l5.trans l6)) b6.has (.inl rfl) HLN.out (show (3 : Nat) ≤ 20 by omega) H64.out)
      have HL6 := Lib.hid (HL4.out.trans (l5.trans l6))
      have HAT6 := Lib.hid (HAT4.out.later (l5.trans l6))
      have HAU6 := Lib.hid (hat.later l6)
      clear l5 l6 b6 hat
      go_wp2_with fail
      refine HRUN3.out.mono ?_
      rintro e w7 (⟨_, rfl, l7⟩ | ⟨hok, _⟩)
      rotate_left
      · exact absurd (show (0 : Int) ≤ 5 ∧ (5 : Int) < 1 from hok.1 5 (by simp)) (by omega)
      · have HL7 := Lib.hid (HL6.out.trans l7)
        obtain ⟨rb, ro, hRA, k0, hh0'⟩ := (HAT6.out.later l7).val 0 (by simp)
        subst hRA
        obtain ⟨rb', ro', hRA, k1, hh1'⟩ := (HAT6.out.later l7).val 1 (by simp)
        injection hRA with hRA
        injection hRA with e1 e2
        subst e1 e2
        obtain ⟨ub, uo, hRB, k2, hh2'⟩ := (HAU6.out.later l7).val 0 (by simp)
        subst hRB
        simp only [List.getElem_cons_zero, List.getElem_cons_succ] at k0 k1 k2 hh0' hh1' hh2'
        rw [hsl] at k0 hh0'
        rw [htl] at k1 hh1'
        rw [hul] at k2 hh2'
        obtain ⟨sb, so, hSA, p0, _, _⟩ := hh0'.val3 0 (by decide)
        obtain ⟨sb1, so1, hSA1, _, p1, _⟩ := hh0'.val3 1 (by decide)
        obtain ⟨sb2, so2, hSA2, p2, _, _⟩ := hh0'.val3 2 (by decide)
        rw [hSA] at hSA1 hSA2 k0
        injection hSA1 with hSA1
        injection hSA1 with e1 e2
        subst e1 e2
        injection hSA2 with hSA2
        injection hSA2 with e1 e2
        subst e1 e2
        obtain ⟨tb, to_, hTA, _, q1, _⟩ := hh1'.val3 2 (by decide)
        rw [hTA] at k1
        obtain ⟨vb, vo, hVA, _, r1, _⟩ := hh2'.val3 0 (by decide)
        rw [hVA] at k2
        rw [Nat.add_zero] at k0 k2
        clear HRUN3 l7 hh0' hh1' hh2' hSA hTA hVA hsl htl hul
        have p0a : w7.cell? ⟨sb, so, none⟩ = some (.int .i64 0) := p0
        have p1a : w7.cell? ⟨sb, so + 3 + 1, none⟩ = some (.int .i64 1) := p1
        have p1b : w7.cell? ⟨sb, so + 4, none⟩ = some (.int .i64 1) := p1
        have p2a : w7.cell? ⟨sb, so + 6, none⟩ = some (.int .i64 0) := p2
        have q1a : w7.cell? ⟨tb, to_ + 6 + 1, none⟩ = some (.int .i64 2) := q1
        have q1b : w7.cell? ⟨tb, to_ + 7, none⟩ = some (.int .i64 2) := q1
        have r1a : w7.cell? ⟨vb, vo + 1, none⟩ = some (.int .i64 0) := r1
        have k0a : w7.cell? ⟨rb, ro, none⟩ = some (.slice (some ⟨sb, so, none⟩) 3 s.c) := k0
        have k1a : w7.cell? ⟨rb, ro + 1, none⟩ = some (.slice (some ⟨tb, to_, none⟩) 3 t.c) := k1
        have k2a : w7.cell? ⟨ub, uo, none⟩ = some (.slice (some ⟨vb, vo, none⟩) 1 u.c) := k2
        clear p0 p1 p2 q1 r1 k0 k1 k2
        go_wp2_with fail
        go_ret
        exact ⟨rfl, HL7.out⟩
end Go.Proofs.YtiacemlloaenoaaDoor
