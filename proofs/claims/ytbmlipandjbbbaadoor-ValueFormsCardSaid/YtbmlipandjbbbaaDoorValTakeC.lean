/- The walk of value.Take. -/
import Derived.Test.YtbmlipandjbbbaaDoorValTakeB
namespace Go.Proofs.YtbmlipandjbbbaaDoor
open Go.RowKit
set_option linter.unusedVariables false

/-- What Take tells. -/
def TakesV (b : List Nat) (w : World) (e : Ending) (w' : World) : Prop :=
  ((takeV b = none ∧ e = .returned (.tuple #[vagg 0 0 ⟨#[]⟩, .int .i64 0, .bool false])) ∨
    ∃ t i l n, takeV b = some (t, i, l, n) ∧ e = .returned (.tuple #[vagg t i (bstr l), .int .i64 (n : Int), .bool true])) ∧ Later w w'
theorem bstr_size' (l : List Nat) : (bstr l).size = l.length := by
  show (bstr l).data.size = _
  rw [← Array.length_toList, bstr_toList, List.length_map]
theorem three_blk {w : World} {g : Nat} {cs : Array Value} {t : TypeId} (h : Blk w g cs t) (hs : cs.size = 3) (x y z : Value) : Blk (((w.setCell ⟨g, 0, none⟩ x).setCell ⟨g, 1, none⟩ y).setCell ⟨g, 2, none⟩ z) g #[x, y, z] t := by
  have := ((h.set_ 0 x).set_ 1 y).set_ 2 z
  have e : ((cs.setIfInBounds 0 x).setIfInBounds 1 y).setIfInBounds 2 z = #[x, y, z] := by
    match cs, hs with
    | ⟨[a, b, c]⟩, _ => rfl
  rwa [e] at this
theorem three_later {w w' : World} {g : Nat} (h : Later w w') (hg : w.heap.size ≤ g) (x y z : Value) : Later w (((w'.setCell ⟨g, 0, none⟩ x).setCell ⟨g, 1, none⟩ y).setCell ⟨g, 2, none⟩ z) := ((h.set_ hg _).set_ hg _).set_ hg _
theorem three_far {w : World} {g : Nat} {p : Addr} {v : Value} (h : CellIs w p v) (hne : p.block ≠ g) (x y z : Value) : CellIs (((w.setCell ⟨g, 0, none⟩ x).setCell ⟨g, 1, none⟩ y).setCell ⟨g, 2, none⟩ z) p v := ((h.far hne).far hne).far hne

theorem readV_shape {b : List Nat} {t : Nat} {i : Int} {l : List Nat} {n : Nat} (h : readV b = some (t, i, l, n)) : (t = 4 ∧ i = 0) ∨ (t ≠ 4 ∧ l = [] ∧ ∃ q, i = sgn (widthV t) q) := by
  match b, h with
  | [], h => cases h
  | x :: r, h =>
    by_cases hx : x = 4
    · subst hx
      match r, h with
      | [], h => cases h
      | m :: q, h =>
        rw [readV_4] at h
        split at h
        · cases h; exact .inl ⟨rfl, rfl⟩
        · cases h
    · rw [readV_n x r hx] at h
      split at h
      · cases h
      · cases h; exact .inr ⟨hx, rfl, _, rfl⟩
theorem readV_small {b : List Nat} {t : Nat} {i : Int} {l : List Nat} {n : Nat} (h256 : ∀ x ∈ b, x < 256) (h : readV b = some (t, i, l, n)) : (t = 4 ∧ i = 0) ∨ (t = 0 ∧ i = 0 ∧ l = []) ∨ (t = 1 ∧ l = [] ∧ -32768 ≤ i ∧ i ≤ 32767) ∨ (t ≠ 4 ∧ t ≠ 0 ∧ t ≠ 1 ∧ l = []) := by
  match b, h256, h with
  | [], _, h => cases h
  | x :: r, h256, h =>
    by_cases hx : x = 4
    · rcases readV_shape h with h1 | ⟨h1, h2, q, h3⟩
      · exact .inl h1
      · subst hx
        match r, h with
        | [], h => cases h
        | m :: q, h =>
          rw [readV_4] at h
          split at h
          · cases h; exact absurd rfl h1
          · cases h
    · rw [readV_n x r hx] at h
      split at h
      · cases h
      · rename_i hlen
        cases h
        by_cases h0 : t = 0
        · subst h0; exact .inr (.inl ⟨rfl, rfl, rfl⟩)
        · by_cases h1 : t = 1
          · subst h1
            have e : widthV ((1 : Nat) : Int) = 2 := rfl
            rw [e] at hlen ⊢
            have := sgn_2 (numH (r.take 2)) (by
              have := numH_lt' (r.take 2) (fun x hx => h256 x (List.mem_cons_of_mem _ (List.mem_of_mem_take hx))) 2 (by rw [List.length_take]; omega)
              simpa using this)
            exact .inr (.inr (.inl ⟨rfl, rfl, this.1, this.2⟩))
          · exact .inr (.inr (.inr ⟨hx, h0, h1, rfl⟩))
theorem takeV_may {b : List Nat} {t : Nat} {i : Int} {l : List Nat} {n : Nat} (h256 : ∀ x ∈ b, x < 256) (h : readV b = some (t, i, l, n)) (hm : MayV t i l.length) : takeV b = some (t, i, l, n) := by
  unfold takeV; rw [h]
  simp only
  rw [if_pos (by unfold MayV at hm; omega)]
theorem takeV_not {b : List Nat} {t : Nat} {i : Int} {l : List Nat} {n : Nat} (h256 : ∀ x ∈ b, x < 256) (h : readV b = some (t, i, l, n)) (hm : ¬ MayV t i l.length) : takeV b = none := by
  unfold takeV; rw [h]
  simp only
  rw [if_neg]
  have hs := readV_small h256 h
  unfold MayV at hm
  rcases hs with ⟨h1, h2⟩ | ⟨h1, h2, h3⟩ | ⟨h1, h2, h3, h4⟩ | ⟨h1, h2, h3, h4⟩
  · omega
  · have hl : l.length = 0 := by rw [h3]; rfl
    omega
  · have hl : l.length = 0 := by rw [h2]; rfl
    omega
  · have hl : l.length = 0 := by rw [h4]; rfl
    omega

set_option maxRecDepth 100000 in
set_option maxHeartbeats 1000000 in
theorem valTake_any (A : Option Addr) (c : Nat) (b : List Nat) (w : World) (hs : Sn w) (hr : Has w A (ints .u8 b)) (h256 : ∀ x ∈ b, x < 256) (hb : b.length ≤ 1000000) (hcap : b.length ≤ c) (hc : c ≤ 9223372036854775807) :
    Calls Tryd.prog 13 #[.slice A b.length c] w (TakesV b w) := by
  have L0 : Later w (w.alloc (.cells #[.int .i64 0, .int .i64 0, .string ⟨#[]⟩] 23)) := Later.new _ _
  obtain ⟨a0, a2, a3, a4, SW⟩ := hs
  have S := (SW.below L0).more L0.size
  have B0 := Blk.new w #[.int .i64 0, .int .i64 0, .string ⟨#[]⟩] 23 _ rfl
  have HC := Lib.hid (valRead_any A c b a0 a2 a3 a4 _ S (hr.later L0) h256 hb hcap hc)
  have hg : 0 < w.heap.size := SW.lt _ (by simp)
  have HSW := Lib.hid SW
  have HS := Lib.hid S
  clear SW hr S
  go_enter Tryd.func13, Tryd.ntmps13
  go_wp2_with fail
  refine HC.out.mono ?_
  rintro e w2 (⟨hn, t, i, s, pb, rfl, hpb, hcell, l2⟩ | ⟨t, i, l, n, hr, rfl, l2⟩)
  · have HN := Lib.hid hn
    have hpb' : pb ≠ w.heap.size := by simp at hpb; omega
    have b2 := B0.later l2
    have L2 := L0.trans l2
    have hc0 := b2.cell 0 _ rfl
    have hc1 := b2.cell 1 _ rfl
    have hc2 := b2.cell 2 _ rfl
    have hf0 := b2.frozen 0
    have hf1 := b2.frozen 1
    have hf2 := b2.frozen 2
    have hgs := l2.cell HS.out.short
    have b3 := three_blk b2 rfl (.int .i64 t) (.int .i64 i) (.string s)
    have L3 := three_later L2 (Nat.le_refl _) (.int .i64 t) (.int .i64 i) (.string s)
    have C3 := three_far hcell hpb' (.int .i64 t) (.int .i64 i) (.string s)
    have HI := Lib.hid (is_wrap_same pb 0 a0 _ C3.out)
    clear hn HC B0 L0 hpb hcell HS C3 b2
    go_wp2_with fail
    refine HI.out.mono ?_
    rintro e w' ⟨rfl, rfl⟩
    obtain ⟨w3, hw3⟩ : ∃ w3, w3 = (((w2.setCell ⟨w.heap.size, 0, none⟩ (.int .i64 t)).setCell ⟨w.heap.size, 1, none⟩ (.int .i64 i)).setCell ⟨w.heap.size, 2, none⟩ (.string s)) := ⟨_, rfl⟩
    rw [← hw3] at b3 L3 ⊢
    have d0 := b3.cell 0 _ rfl
    have d1 := b3.cell 1 _ rfl
    have d2 := b3.cell 2 _ rfl
    have e0 := b3.frozen 0
    have e1 := b3.frozen 1
    have e2 := b3.frozen 2
    clear hw3 hc0 hc1 hc2 hf0 hf1 hf2 HI hgs
    go_wp2_with fail
    have b4 := three_blk b3 rfl (.int .i64 0) (.int .i64 0) (.string ⟨#[]⟩)
    have L4 := three_later L3 (Nat.le_refl _) (.int .i64 0) (.int .i64 0) (.string ⟨#[]⟩)
    obtain ⟨w4, hw4⟩ : ∃ w4, w4 = (((w3.setCell ⟨w.heap.size, 0, none⟩ (.int .i64 0)).setCell ⟨w.heap.size, 1, none⟩ (.int .i64 0)).setCell ⟨w.heap.size, 2, none⟩ (.string ⟨#[]⟩)) := ⟨_, rfl⟩
    rw [← hw4] at b4 L4 ⊢
    have r0 := b4.cell 0 _ rfl
    have r1 := b4.cell 1 _ rfl
    have r2 := b4.cell 2 _ rfl
    exact bodyPost_ret (v := .tuple #[vagg 0 0 ⟨#[]⟩, .int .i64 0, .bool false]) (by simp [results, Tryd.results13, go_sem, r0, r1, r2]) rfl ⟨.inl ⟨by unfold takeV; rw [HN.out], rfl⟩, L4⟩
  · have HR := Lib.hid hr
    have b2 := B0.later l2
    have L2 := L0.trans l2
    have hc0 := b2.cell 0 _ rfl
    have hc1 := b2.cell 1 _ rfl
    have hc2 := b2.cell 2 _ rfl
    have hf0 := b2.frozen 0
    have hf1 := b2.frozen 1
    have hf2 := b2.frozen 2
    have hgs := l2.cell HS.out.short
    have b3 := three_blk b2 rfl (.int .i64 t) (.int .i64 i) (.string (bstr l))
    have L3 := three_later L2 (Nat.le_refl _) (.int .i64 t) (.int .i64 i) (.string (bstr l))
    obtain ⟨w3, hw3⟩ : ∃ w3, w3 = (((w2.setCell ⟨w.heap.size, 0, none⟩ (.int .i64 t)).setCell ⟨w.heap.size, 1, none⟩ (.int .i64 i)).setCell ⟨w.heap.size, 2, none⟩ (.string (bstr l))) := ⟨_, rfl⟩
    rw [← hw3] at b3 L3
    have HIN := Lib.hid (is_nil a0 w3)
    have HW3 := Lib.hid hw3
    clear hr HC B0 L0 HS b2 hw3
    go_wp2_with fail
    rw [← HW3.out]
    refine HIN.out.mono ?_
    rintro e w' ⟨rfl, rfl⟩
    have S3 := (HSW.out.below L3).more L3.size
    have d0 := b3.cell 0 _ rfl
    have d1 := b3.cell 1 _ rfl
    have d2 := b3.cell 2 _ rfl
    have HCK := Lib.hid (check_any t i (bstr l) a0 a2 a3 a4 w3 S3)
    clear HW3 hc0 hc1 hc2 hf0 hf1 hf2 hgs S3
    go_wp2_with fail
    refine HCK.out.mono ?_
    rintro e w4 ⟨⟨hm, rfl⟩ | ⟨hm, p, rfl⟩, b4⟩
    · have l4 : Later w3 w4 := b4
      have b4' := b3.later l4
      have L4 := L3.trans l4
      have c0 := b4'.cell 0 _ rfl
      have c1 := b4'.cell 1 _ rfl
      have c2 := b4'.cell 2 _ rfl
      have f0 := b4'.frozen 0
      have f1 := b4'.frozen 1
      have f2 := b4'.frozen 2
      have HM := Lib.hid hm
      clear d0 d1 d2 b4 hm HCK
      go_wp2_with fail
      have b5 := three_blk b4' rfl (.int .i64 t) (.int .i64 i) (.string (bstr l))
      have L5 := three_later L4 (Nat.le_refl _) (.int .i64 t) (.int .i64 i) (.string (bstr l))
      obtain ⟨w5, hw5⟩ : ∃ w5, w5 = (((w4.setCell ⟨w.heap.size, 0, none⟩ (.int .i64 t)).setCell ⟨w.heap.size, 1, none⟩ (.int .i64 i)).setCell ⟨w.heap.size, 2, none⟩ (.string (bstr l))) := ⟨_, rfl⟩
      rw [← hw5] at b5 L5 ⊢
      have r0 := b5.cell 0 _ rfl
      have r1 := b5.cell 1 _ rfl
      have r2 := b5.cell 2 _ rfl
      refine bodyPost_ret (v := .tuple #[vagg t i (bstr l), .int .i64 n, .bool true]) (by simp [results, Tryd.results13, go_sem, r0, r1, r2]) rfl ⟨.inr ⟨t, i, l, n, ?_, rfl⟩, L5⟩
      have hm' := HM.out
      rw [bstr_size'] at hm'
      exact takeV_may h256 HR.out hm'
    · have hif : Tryd.prog.isIface 49 = true := by kernel_rfl
      have heq := run_neq_iface_nil (P := Tryd.prog) (w := w4) 49 hif 72 (.pointer (some p))
      have l4 : Later w3 w4 := b4
      have b4' := b3.later l4
      have L4 := L3.trans l4
      have c0 := b4'.cell 0 _ rfl
      have c1 := b4'.cell 1 _ rfl
      have c2 := b4'.cell 2 _ rfl
      have f0 := b4'.frozen 0
      have f1 := b4'.frozen 1
      have f2 := b4'.frozen 2
      have HM := Lib.hid hm
      clear d0 d1 d2 b4 hm HCK
      go_wp2_with fail
      have b5 := three_blk b4' rfl (.int .i64 0) (.int .i64 0) (.string ⟨#[]⟩)
      have L5 := three_later L4 (Nat.le_refl _) (.int .i64 0) (.int .i64 0) (.string ⟨#[]⟩)
      obtain ⟨w5, hw5⟩ : ∃ w5, w5 = (((w4.setCell ⟨w.heap.size, 0, none⟩ (.int .i64 0)).setCell ⟨w.heap.size, 1, none⟩ (.int .i64 0)).setCell ⟨w.heap.size, 2, none⟩ (.string ⟨#[]⟩)) := ⟨_, rfl⟩
      rw [← hw5] at b5 L5 ⊢
      have r0 := b5.cell 0 _ rfl
      have r1 := b5.cell 1 _ rfl
      have r2 := b5.cell 2 _ rfl
      refine bodyPost_ret (v := .tuple #[vagg 0 0 ⟨#[]⟩, .int .i64 0, .bool false]) (by simp [results, Tryd.results13, go_sem, r0, r1, r2]) rfl ⟨.inl ⟨?_, rfl⟩, L5⟩
      have hm' := HM.out
      rw [bstr_size'] at hm'
      exact takeV_not h256 HR.out hm'
end Go.Proofs.YtbmlipandjbbbaaDoor
