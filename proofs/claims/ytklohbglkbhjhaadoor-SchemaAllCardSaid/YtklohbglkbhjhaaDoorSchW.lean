/- schema: change, apply. (tools/gen_schW.py) -/
import Derived.Test.YtklohbglkbhjhaaDoorSchV
namespace Go.Proofs.YtklohbglkbhjhaaDoor
open Go.RowKit
set_option linter.unusedVariables false

def colM (s : St3) (c : Chg) (i : Nat) : Except Int St3 := if c.kind = 2 then dropM s c i else if c.kind = 3 then renameM s c i else if c.kind = 4 then widenM s i else if c.kind = 5 then splitM s c i else recodeM s c i
theorem changeM_col {s : St3} {c : Chg} (hk : c.kind = 2 ∨ c.kind = 3 ∨ c.kind = 4 ∨ c.kind = 5 ∨ c.kind = 9) : changeM s c = match findI s.1 c.col with | none => .error 3 | some i => colM s c i := by
  unfold changeM
  rw [if_neg (by omega), if_neg (by omega), if_neg (by omega), if_neg (by omega), if_pos hk]
  rfl
set_option maxRecDepth 100000 in
set_option maxHeartbeats 4000000 in
theorem change_any (W0 : World) (p : Nat) (w : World) (f : Int → Addr) (s : St3) (c : Chg) (gv vc ge ec i : Nat) (hs : S15 W0 f) (hl : Later W0 w) (T : TS W0.heap.size p w s c gv vc ge ec) (hi : i < s.1.length) (hnm : c.name.size ≤ 9223372036854775807) (h3 : S3 W0) (hk : c.kind = 2 ∨ c.kind = 3 ∨ c.kind = 4 ∨ c.kind = 5 ∨ c.kind = 9) :
    Calls Tryd.prog 61 #[.pointer (some ⟨p, 0, none⟩), .int .i64 i] w (TurnP W0 p f (colM s c i)) := by
  have d6 := T.d6
  rcases hk with hk | hk | hk | hk | hk
  · have HC := Lib.hid (drop_any W0 p w f s c gv vc ge ec i hs hl T hi)
    have HX := Lib.hid (show colM s c i = dropM s c i from by unfold colM; simp [hk])
    rw [hk] at d6
    clear hs hl T hnm h3 hk
    go_enter Tryd.func61, Tryd.ntmps61
    go_wp2_with fail
    refine HC.out.mono ?_
    intro e w2 h2
    rw [← HX.out] at h2
    have H2 := Lib.hid h2
    obtain ⟨l2, ⟨n, v, h1, hn, rfl, he⟩ | ⟨s', c', g1, g2, g3, g4, h1, rfl, ht⟩⟩ := h2
    · clear l2 h1 hn he HC
      go_wp2_with fail
      go_ret
      exact H2.out
    · clear l2 h1 ht HC
      go_wp2_with fail
      go_ret
      exact H2.out
  · have HC := Lib.hid (rename_any W0 p w f s c gv vc ge ec i hs hl T hi hnm)
    have HX := Lib.hid (show colM s c i = renameM s c i from by unfold colM; simp [hk])
    rw [hk] at d6
    clear hs hl T hnm h3 hk
    go_enter Tryd.func61, Tryd.ntmps61
    go_wp2_with fail
    refine HC.out.mono ?_
    intro e w2 h2
    rw [← HX.out] at h2
    have H2 := Lib.hid h2
    obtain ⟨l2, ⟨n, v, h1, hn, rfl, he⟩ | ⟨s', c', g1, g2, g3, g4, h1, rfl, ht⟩⟩ := h2
    · clear l2 h1 hn he HC
      go_wp2_with fail
      go_ret
      exact H2.out
    · clear l2 h1 ht HC
      go_wp2_with fail
      go_ret
      exact H2.out
  · have HC := Lib.hid (widen_any W0 p w f s c gv vc ge ec i hs hl T hi)
    have HX := Lib.hid (show colM s c i = widenM s i from by unfold colM; simp [hk])
    rw [hk] at d6
    clear hs hl T hnm h3 hk
    go_enter Tryd.func61, Tryd.ntmps61
    go_wp2_with fail
    refine HC.out.mono ?_
    intro e w2 h2
    rw [← HX.out] at h2
    have H2 := Lib.hid h2
    obtain ⟨l2, ⟨n, v, h1, hn, rfl, he⟩ | ⟨s', c', g1, g2, g3, g4, h1, rfl, ht⟩⟩ := h2
    · clear l2 h1 hn he HC
      go_wp2_with fail
      go_ret
      exact H2.out
    · clear l2 h1 ht HC
      go_wp2_with fail
      go_ret
      exact H2.out
  · have HC := Lib.hid (maySplit_any W0 p w f s c gv vc ge ec i hs hl T hi)
    have HX := Lib.hid (show colM s c i = splitM s c i from by unfold colM; simp [hk])
    rw [hk] at d6
    have HT := Lib.hid T
    have HS := Lib.hid hs
    have H3 := Lib.hid h3
    have HL := Lib.hid hl
    have HI := Lib.hid hi
    have HNM := Lib.hid hnm
    have hsm := T.small
    clear hs hl T hnm h3 hk hi
    go_enter Tryd.func61, Tryd.ntmps61
    go_wp2_with fail
    refine HC.out.mono ?_
    clear HC
    rintro e w2 ⟨l2, ⟨ho, rfl⟩ | ⟨n, v, ho, hn, rfl, hv⟩⟩
    · have HM := Lib.hid (show splitM s c i = addM s c 4 (0, 0, ⟨#[]⟩) (i + 1) from by
        unfold splitO at ho
        unfold splitM
        by_cases h4 : typOf s.1 i ≠ 4
        · rw [if_pos h4] at ho; cases ho
        · rw [if_neg h4] at ho ⊢
          by_cases hh : heldM s c
          · rw [if_pos hh] at ho; cases ho
          · rw [if_neg hh])
      have HT2 := Lib.hid (HT.out.later l2)
      have HL2 := Lib.hid (HL.out.trans l2)
      have z9 := HT2.out.d9
      have z10 := HT2.out.d10
      have z11 := HT2.out.d11
      have z12 := HT2.out.d12
      have y9 := HT2.out.frz 9
      have y10 := HT2.out.frz 10
      have y11 := HT2.out.frz 11
      have y12 := HT2.out.frz 12
      obtain ⟨w3, hw3⟩ : ∃ x, w2.setCell ⟨p, 9, none⟩ (.int .i64 4) = x := ⟨_, rfl⟩
      obtain ⟨w4, hw4⟩ : ∃ x, w3.setCell ⟨p, 10, none⟩ (.int .i64 0) = x := ⟨_, rfl⟩
      obtain ⟨w5, hw5⟩ : ∃ x, w4.setCell ⟨p, 11, none⟩ (.int .i64 0) = x := ⟨_, rfl⟩
      obtain ⟨w6, hw6⟩ : ∃ x, w5.setCell ⟨p, 12, none⟩ (.string ⟨#[]⟩) = x := ⟨_, rfl⟩
      have HT3 := Lib.hid (show TS W0.heap.size p w3 s { c with typ := 4 } gv vc ge ec from hw3 ▸ HT2.out.put (s' := s) (c' := { c with typ := 4 }) 9 (.int .i64 4) rfl rfl rfl HT2.out.last)
      have HT4 := Lib.hid (show TS W0.heap.size p w4 s { c with typ := 4, val := (0, c.val.2) } gv vc ge ec from hw4 ▸ HT3.out.put (s' := s) (c' := { c with typ := 4, val := (0, c.val.2) }) 10 (.int .i64 0) rfl rfl rfl HT2.out.last)
      have HT5 := Lib.hid (show TS W0.heap.size p w5 s { c with typ := 4, val := (0, 0, c.val.2.2) } gv vc ge ec from hw5 ▸ HT4.out.put (s' := s) (c' := { c with typ := 4, val := (0, 0, c.val.2.2) }) 11 (.int .i64 0) rfl rfl rfl HT2.out.last)
      have HT6 := Lib.hid (show TS W0.heap.size p w6 s { c with typ := 4, val := (0, 0, ⟨#[]⟩) } gv vc ge ec from hw6 ▸ HT5.out.put (s' := s) (c' := { c with typ := 4, val := (0, 0, ⟨#[]⟩) }) 12 (.string ⟨#[]⟩) rfl rfl rfl HT2.out.last)
      have HL6 := Lib.hid (show Later W0 w6 from hw6 ▸ hw5 ▸ hw4 ▸ hw3 ▸ (((HL2.out.set_ HT2.out.hp _).set_ HT2.out.hp _).set_ HT2.out.hp _).set_ HT2.out.hp _)
      have a10 := HT3.out.d10
      have a11 := HT4.out.d11
      have a12 := HT5.out.d12
      have b10 := HT3.out.frz 10
      have b11 := HT4.out.frz 11
      have b12 := HT5.out.frz 12
      have HC := Lib.hid (add_any W0 p w6 f s { c with typ := 4, val := (0, 0, ⟨#[]⟩) } gv vc ge ec (i + 1) HS.out HL6.out HT6.out (by have := HI.out; omega) HNM.out H3.out)
      have HY := Lib.hid (show colM s c i = addM s { c with typ := 4, val := (0, 0, ⟨#[]⟩) } 4 (0, 0, ⟨#[]⟩) (i + 1) from HX.out.trans HM.out)
      have hwi : IntKind.i64.wrap ((i : Int) + 1) = (i : Int) + 1 := IntWalk.i64_in _ ⟨by omega, by have := HI.out; omega⟩
      have hi6 : (i : Int) ≤ 6 := by have := HI.out; omega
      clear ho l2 HT HL HX HM HT2 HL2 HT3 HT4 HT5 HS H3
      go_wp2_with fail
      refine HC.out.mono ?_
      intro e w7 h2
      rw [← HY.out] at h2
      have H2 := Lib.hid h2
      obtain ⟨l2, ⟨n, v, h1, hn, rfl, he⟩ | ⟨s', c', g1, g2, g3, g4, h1, rfl, ht⟩⟩ := h2
      · clear l2 h1 hn he HC
        go_wp2_with fail
        go_ret
        exact H2.out
      · clear l2 h1 ht HC
        go_wp2_with fail
        go_ret
        exact H2.out
    · have HM := Lib.hid (show colM s c i = .error n from HX.out.trans (by
        unfold splitO at ho
        unfold splitM
        by_cases h4 : typOf s.1 i ≠ 4
        · rw [if_pos h4] at ho ⊢; injection ho with ho; rw [ho]
        · rw [if_neg h4] at ho ⊢
          by_cases hh : heldM s c
          · rw [if_pos hh] at ho ⊢; injection ho with ho; rw [ho]
          · rw [if_neg hh] at ho; cases ho))
      have HV := Lib.hid hv
      have HL3 := Lib.hid (HL.out.trans l2)
      have HN := Lib.hid hn
      obtain ⟨q, rfl, _⟩ := hv
      have hif : Tryd.prog.isIface 80 = true := by kernel_rfl
      have heq := run_eql_iface_nil (P := Tryd.prog) (w := w2) 80 hif 112 (.pointer (some ⟨q, 0, none⟩))
      clear ho l2 HT HL HX HS H3 hn
      go_wp2_with fail
      go_ret
      exact TurnP.no n HM.out HN.out HV.out HL3.out
  · have HC := Lib.hid (recode_any W0 p w f s c gv vc ge ec i hs hl T hi)
    have HX := Lib.hid (show colM s c i = recodeM s c i from by unfold colM; simp [hk])
    rw [hk] at d6
    clear hs hl T hnm h3 hk
    go_enter Tryd.func61, Tryd.ntmps61
    go_wp2_with fail
    refine HC.out.mono ?_
    intro e w2 h2
    rw [← HX.out] at h2
    have H2 := Lib.hid h2
    obtain ⟨l2, ⟨n, v, h1, hn, rfl, he⟩ | ⟨s', c', g1, g2, g3, g4, h1, rfl, ht⟩⟩ := h2
    · clear l2 h1 hn he HC
      go_wp2_with fail
      go_ret
      exact H2.out
    · clear l2 h1 ht HC
      go_wp2_with fail
      go_ret
      exact H2.out

set_option maxRecDepth 100000 in
set_option maxHeartbeats 4000000 in
theorem changeAdd_any (W0 : World) (p : Nat) (w : World) (f : Int → Addr) (s : St3) (c : Chg) (gv vc ge ec i : Nat) (hs : S15 W0 f) (hl : Later W0 w) (T : TS W0.heap.size p w s c gv vc ge ec) (hi : i + 1 = s.1.length) (hnm : c.name.size ≤ 9223372036854775807) (h3 : S3 W0) (hk : c.kind = 1) :
    Calls Tryd.prog 61 #[.pointer (some ⟨p, 0, none⟩), .int .i64 i] w (TurnP W0 p f (addM s c c.typ c.val s.1.length)) := by
  have d6 := T.d6
  have HC := Lib.hid (add_any W0 p w f s c gv vc ge ec (i + 1) hs hl T (by omega) hnm h3)
  rw [← hi]
  rw [hk] at d6
  have hsm := T.small
  have hwi : IntKind.i64.wrap ((i : Int) + 1) = (i : Int) + 1 := IntWalk.i64_in _ ⟨by omega, by omega⟩
  have hi6 : (i : Int) ≤ 6 := by omega
  clear hs hl T hnm h3 hk hi hsm
  go_enter Tryd.func61, Tryd.ntmps61
  go_wp2_with fail
  refine HC.out.mono ?_
  intro e w2 h2
  have H2 := Lib.hid h2
  obtain ⟨l2, ⟨n, v, h1, hn, rfl, he⟩ | ⟨s', c', g1, g2, g3, g4, h1, rfl, ht⟩⟩ := h2
  · clear l2 h1 hn he HC
    go_wp2_with fail
    go_ret
    exact H2.out
  · clear l2 h1 ht HC
    go_wp2_with fail
    go_ret
    exact H2.out
end Go.Proofs.YtklohbglkbhjhaaDoor
