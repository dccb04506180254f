/- The walk of rle.readRun. -/
import Derived.Test.YtifejanbgobngaaDoorRleM
import Derived.Test.YtifejanbgobngaaDoorCellG
import Derived.Deep.RegionLaw
namespace Go.Proofs.YtifejanbgobngaaDoor
open Go.RowKit
set_option linter.unusedVariables false

/-- The run that bytes begin with: how many, the number, the text's bytes, how many bytes. -/
def runS (t : Int) (most : Nat) (b : List Nat) : Option (Nat × Int × List Nat × Nat) :=
  match takeNum b with
  | some (u, k) => if 1 ≤ u ∧ u ≤ most then (match takeC t (b.drop k) with
      | some (i, s, j) => some (u, i, s, k + j)
      | none => none) else none
  | none => none
def RunPost (o : Option (Nat × Int × List Nat × Nat)) (t : Int) (w : World) (e : Ending) (w' : World) : Prop :=
  ((o = none ∧ ∃ (t' i' c' z' : Int) (s' : ByteArray) (p : Addr), e = .returned (.tuple #[vagg t' i' s', .int .i64 c', .int .i64 z', .iface 90 (.pointer (some p))])) ∨
    ∃ u i s z, o = some (u, i, s, z) ∧ e = .returned (.tuple #[vagg t i (bstr s), .int .i64 (u : Int), .int .i64 (z : Int), .nilIface])) ∧ Later w w'
theorem RunPost.no {o : Option (Nat × Int × List Nat × Nat)} {t : Int} {w w' : World} (h : o = none) (t' i' c' z' : Int) (s' : ByteArray) {p : Addr} (l : Later w w') : RunPost o t w (.returned (.tuple #[vagg t' i' s', .int .i64 c', .int .i64 z', .iface 90 (.pointer (some p))])) w' := ⟨.inl ⟨h, t', i', c', z', s', p, rfl⟩, l⟩
theorem RunPost.yes {o : Option (Nat × Int × List Nat × Nat)} {t : Int} {w w' : World} {u z : Nat} {i : Int} {s : List Nat} (h : o = some (u, i, s, z)) (l : Later w w') : RunPost o t w (.returned (.tuple #[vagg t i (bstr s), .int .i64 (u : Int), .int .i64 (z : Int), .nilIface])) w' := ⟨.inr ⟨u, i, s, z, h, rfl⟩, l⟩
theorem runS_none {t : Int} {m : Nat} {b : List Nat} (h : takeNum b = none) : runS t m b = none := by unfold runS; rw [h]
theorem runS_not {t : Int} {m : Nat} {b : List Nat} {u k : Nat} (h : takeNum b = some (u, k)) (hu : ¬ (1 ≤ u ∧ u ≤ m)) : runS t m b = none := by unfold runS; rw [h]; simp only; rw [if_neg hu]
theorem runS_no {t : Int} {m : Nat} {b : List Nat} {u k : Nat} (h : takeNum b = some (u, k)) (hC : takeC t (b.drop k) = none) : runS t m b = none := by
  unfold runS; rw [h]; simp only; rw [hC]; split <;> rfl
theorem runS_yes {t : Int} {m : Nat} {b : List Nat} {u k : Nat} {i : Int} {s : List Nat} {j : Nat} (h : takeNum b = some (u, k)) (hu : 1 ≤ u ∧ u ≤ m) (hC : takeC t (b.drop k) = some (i, s, j)) : runS t m b = some (u, i, s, k + j) := by
  unfold runS; rw [h]; simp only; rw [if_pos hu, hC]
theorem cellTake_n (t : Int) (ht : 1 ≤ t ∧ t ≤ 4) (A : Option Addr) (m c : Nat) (b : List Nat) (w : World) (hm : m = b.length) (hs : S6 w) (hr : Has w A (ints .u8 b)) (h256 : ∀ x ∈ b, x < 256) (hb : b.length ≤ 1000000) (hbc : b.length ≤ c) (hc : c ≤ 9223372036854775807) :
    Calls Tryd.prog 52 #[.int .i64 t, .slice A m c] w (TakesC (takeC t b) t w) := by
  subst hm; exact cellTake_any t ht A c b w hs hr h256 hb hbc hc

set_option maxRecDepth 100000 in
set_option maxHeartbeats 1000000 in
theorem readRun_any (t : Int) (ht : 1 ≤ t ∧ t ≤ 4) (most : Nat) (hmost : most ≤ 1000) (A : Option Addr) (c : Nat) (b : List Nat) (w : World) (hs : S6 w) (hr : Has w A (ints .u8 b)) (h256 : ∀ x ∈ b, x < 256) (hb : b.length ≤ 1000000) (hbc : b.length ≤ c) (hc : c ≤ 9223372036854775807) :
    Calls Tryd.prog 61 #[.int .i64 t, .int .i64 most, .slice A b.length c] w (RunPost (runS t most b) t w) := by
  have HN0 := Lib.hid (runS_none (t := t) (m := most) (b := b))
  have HN1 := Lib.hid (fun u k => runS_not (t := t) (m := most) (b := b) (u := u) (k := k))
  have HN2 := Lib.hid (fun u k => runS_no (t := t) (m := most) (b := b) (u := u) (k := k))
  have HY0 := Lib.hid (fun u k i s j => runS_yes (t := t) (m := most) (b := b) (u := u) (k := k) (i := i) (s := s) (j := j))
  obtain ⟨o, ho⟩ : ∃ o, o = runS t most b := ⟨_, rfl⟩
  rw [← ho] at HN0 HN1 HN2 HY0 ⊢
  obtain ⟨w1, hw1⟩ : ∃ w1, w1 = w.alloc (.cells #[.int .i64 0, .int .i64 0, .string ⟨#[]⟩] 26) := ⟨_, rfl⟩
  have L1 : Later w w1 := hw1 ▸ Later.new _ _
  have R1 : Blk w1 w.heap.size #[.int .i64 0, .int .i64 0, .string ⟨#[]⟩] 26 := hw1 ▸ Blk.new w _ _ _ rfl
  have S1 := hs.later L1
  obtain ⟨a, hn⟩ := S1.num
  have HT := Lib.hid (take_num A b.length c b a w1 w1.heap.size rfl (hr.later L1) h256 hb hn)
  have HS := Lib.hid S1
  have HL := Lib.hid L1
  have HW := Lib.hid hw1
  have HR := Lib.hid hr
  have H256 := Lib.hid h256
  have HTT := Lib.hid ht
  obtain ⟨g, hg⟩ : ∃ g, g = w.heap.size := ⟨_, rfl⟩
  have HG := Lib.hid hg
  rw [← hg] at R1
  clear hw1 L1 hs hr ho h256 S1 hn ht
  go_enter Tryd.func61, Tryd.ntmps61
  go_wp2_with fail
  rw [← HW.out]
  refine HT.out.mono ?_
  rintro e w2 ⟨u, k, ok, hT0, rfl, b2⟩
  have l2 : Later w1 w2 := Later.of b2
  have R2 := R1.later l2
  have HL2 := Lib.hid (HL.out.trans l2)
  have HS2 := Lib.hid (HS.out.later l2)
  rw [← HG.out]
  have r0 := R2.cell 0 _ rfl
  have r1 := R2.cell 1 _ rfl
  have r2 := R2.cell 2 _ rfl
  clear hg HT HL R1 HW b2 l2 HS
  have hmw : IntKind.u64.wrap (most : Int) = (most : Int) := by rw [IntKind.wrap_u64]; omega
  rcases takeR_some hT0 with ⟨rfl, hT⟩ | ⟨rfl, hT⟩
  · obtain ⟨hu64, hk2, hk3⟩ := takeNum_is H256.out hT
    have hkb : k ≤ b.length := by rw [hk2]; exact hk3.length_le
    have hk10 : k ≤ 10 := by rw [hk2]; exact putNum_le u
    have HTN := Lib.hid hT
    have HK2 := Lib.hid hk2
    clear hT hT0 hk2 hk3
    by_cases hu : 1 ≤ u ∧ u ≤ most
    · have hd1 : decide ((u : Int) < 1) = false := by simp; omega
      have hd2 : decide ((most : Int) < (u : Int)) = false := by simp; omega
      have hq2 : ¬ most < u := by omega
      have hq1 : ¬ u < 1 := by omega
      have hq0 : ¬ u = 0 := by omega
      have huw : IntKind.i64.wrap (u : Int) = (u : Int) := IntWalk.i64_in _ ⟨by omega, by omega⟩
      have HNO2 := Lib.hid (HN2.out u k HTN.out)
      have HYES := Lib.hid (fun i s j => HY0.out u k i s j HTN.out hu)
      have D256 := Lib.hid (fun x (hx : x ∈ b.drop k) => H256.out x (List.mem_of_mem_drop hx))
      have HJ := Lib.hid (fun i s j (h : takeC t (b.drop k) = some (i, s, j)) => (show j ≤ 1000000 from by
        have := (readC_lt D256.out (takeC_read h).1).2.1
        rw [List.length_drop] at this; omega))
      have hdl : (b.drop k).length = b.length - k := List.length_drop
      have hi1 : (0 : Int) ≤ (k : Int) := by omega
      have hi2 : (k : Int) ≤ (b.length : Int) := by omega
      have hi3 : (b.length : Int) ≤ (c : Int) := by omega
      clear HN0 HN1 HN2 HY0 hu
      by_cases hck : c = k
      · have hd0 : b.drop k = [] := List.drop_of_length_le (by omega)
        have HTK := Lib.hid (cellTake_n t HTT.out A 0 0 (b.drop k) w2 (by rw [hd0]; rfl) HS2.out (by rw [hd0]; exact Has.nil_) D256.out (by rw [hd0]; decide) (by rw [hd0]; decide) (by decide))
        have hkc : k = c := hck.symm
        have hlc : b.length = c := by omega
        have HLC := Lib.hid hlc
        clear hd0 hdl hck
        subst hkc
        go_wp2_with fail
        refine HTK.out.mono ?_
        rintro e w3 ⟨⟨hC, p, rfl⟩ | ⟨i, s, j, hC, rfl⟩, l3⟩
        · have HO := Lib.hid (HNO2.out hC)
          have R3 := R2.later l3
          have HL3 := Lib.hid (HL2.out.trans l3)
          have r0 := R3.cell 0 _ rfl
          have r1 := R3.cell 1 _ rfl
          have r2 := R3.cell 2 _ rfl
          have f0 := R3.frozen 0
          have f1 := R3.frozen 1
          have f2 := R3.frozen 2
          have HR3 := Lib.hid R3
          clear hC l3 R2 R3 HL2 HTK
          go_wp2_with fail
          have R4 := three_blk HR3.out rfl (.int .i64 0) (.int .i64 0) (.string ⟨#[]⟩)
          have L4 := three_later HL3.out (show w.heap.size ≤ g by have := HG.out; omega) (.int .i64 0) (.int .i64 0) (.string ⟨#[]⟩)
          obtain ⟨w4, hw4⟩ : ∃ w4, w4 = (((w3.setCell ⟨g, 0, none⟩ (.int .i64 0)).setCell ⟨g, 1, none⟩ (.int .i64 0)).setCell ⟨g, 2, none⟩ (.string ⟨#[]⟩)) := ⟨_, rfl⟩
          rw [← hw4] at R4 L4 ⊢
          first
            | (have R5 := three_blk R4 rfl (.int .i64 0) (.int .i64 0) (.string ⟨#[]⟩)
               have L5 := three_later L4 (show w.heap.size ≤ g by have := HG.out; omega) (.int .i64 0) (.int .i64 0) (.string ⟨#[]⟩)
               obtain ⟨w5, hw5⟩ : ∃ w5, w5 = (((w4.setCell ⟨g, 0, none⟩ (.int .i64 0)).setCell ⟨g, 1, none⟩ (.int .i64 0)).setCell ⟨g, 2, none⟩ (.string ⟨#[]⟩)) := ⟨_, rfl⟩
               rw [← hw5] at R5 L5 ⊢
               have x0 := R5.cell 0 _ rfl
               have x1 := R5.cell 1 _ rfl
               have x2 := R5.cell 2 _ rfl
               refine bodyPost_ret (v := .tuple #[vagg 0 0 ⟨#[]⟩, .int .i64 u, .int .i64 (k : Int), .iface 90 (.pointer (some p))]) (by simp [results, Tryd.results61, go_sem, x0, x1, x2]) rfl ?_
               exact RunPost.no HO.out _ _ _ _ _ L5)
            | (have x0 := R4.cell 0 _ rfl
               have x1 := R4.cell 1 _ rfl
               have x2 := R4.cell 2 _ rfl
               refine bodyPost_ret (v := .tuple #[vagg 0 0 ⟨#[]⟩, .int .i64 u, .int .i64 (k : Int), .iface 90 (.pointer (some p))]) (by simp [results, Tryd.results61, go_sem, x0, x1, x2]) rfl ?_
               exact RunPost.no HO.out _ _ _ _ _ L4)
        · have HO := Lib.hid (HYES.out i s j hC)
          obtain ⟨S, hS⟩ : ∃ S, S = bstr s := ⟨_, rfl⟩
          have HSS := Lib.hid hS
          rw [← hS]
          have hjb := HJ.out i s j hC
          have R3 := R2.later l3
          have HL3 := Lib.hid (HL2.out.trans l3)
          have r0 := R3.cell 0 _ rfl
          have r1 := R3.cell 1 _ rfl
          have r2 := R3.cell 2 _ rfl
          have f0 := R3.frozen 0
          have f1 := R3.frozen 1
          have f2 := R3.frozen 2
          have HR3 := Lib.hid R3
          have HKJ := Lib.hid (show ((k + j : Nat) : Int) = (k : Int) + (j : Int) by omega)
          clear hC l3 R2 R3 HL2 HTK hS
          go_wp2_with fail
          have R4 := three_blk HR3.out rfl (.int .i64 t) (.int .i64 i) (.string S)
          have L4 := three_later HL3.out (show w.heap.size ≤ g by have := HG.out; omega) (.int .i64 t) (.int .i64 i) (.string S)
          obtain ⟨w4, hw4⟩ : ∃ w4, w4 = (((w3.setCell ⟨g, 0, none⟩ (.int .i64 t)).setCell ⟨g, 1, none⟩ (.int .i64 i)).setCell ⟨g, 2, none⟩ (.string S)) := ⟨_, rfl⟩
          rw [← hw4] at R4 L4 ⊢
          first
            | (have R5 := three_blk R4 rfl (.int .i64 t) (.int .i64 i) (.string S)
               have L5 := three_later L4 (show w.heap.size ≤ g by have := HG.out; omega) (.int .i64 t) (.int .i64 i) (.string S)
               obtain ⟨w5, hw5⟩ : ∃ w5, w5 = (((w4.setCell ⟨g, 0, none⟩ (.int .i64 t)).setCell ⟨g, 1, none⟩ (.int .i64 i)).setCell ⟨g, 2, none⟩ (.string S)) := ⟨_, rfl⟩
               rw [← hw5] at R5 L5 ⊢
               have x0 := R5.cell 0 _ rfl
               have x1 := R5.cell 1 _ rfl
               have x2 := R5.cell 2 _ rfl
               refine bodyPost_ret (v := .tuple #[vagg t i S, .int .i64 u, .int .i64 ((k : Int) + (j : Int)), .nilIface]) (by simp [results, Tryd.results61, go_sem, x0, x1, x2]) rfl ?_
               (rw [HSS.out, ← HKJ.out]; exact RunPost.yes HO.out L5))
            | (have x0 := R4.cell 0 _ rfl
               have x1 := R4.cell 1 _ rfl
               have x2 := R4.cell 2 _ rfl
               refine bodyPost_ret (v := .tuple #[vagg t i S, .int .i64 u, .int .i64 ((k : Int) + (j : Int)), .nilIface]) (by simp [results, Tryd.results61, go_sem, x0, x1, x2]) rfl ?_
               (rw [HSS.out, ← HKJ.out]; exact RunPost.yes HO.out L4))
      · rcases A with _ | ⟨bb, off, inn⟩
        · exfalso
          rcases HR.out with h | ⟨_, _, h, _⟩
          · have : b.length = 0 := by have := congrArg List.length h; rw [ints_length] at this; exact this
            have := HK2.out
            have := putNum_pos u
            omega
          · cases h
        · obtain rfl : inn = none := by
            rcases HR.out with h | ⟨_, _, h, _⟩
            · have : b.length = 0 := by have := congrArg List.length h; rw [ints_length] at this; exact this
              have := HK2.out
              have := putNum_pos u
              omega
            · injection h with h; injection h
          have HTK := Lib.hid (cellTake_n t HTT.out (some ⟨bb, off + k, none⟩) (b.length - k) (c - k) (b.drop k) w2 hdl.symm HS2.out (by have h := (HR.out.later HL2.out).drop k; rw [show (ints .u8 b).drop k = ints .u8 (b.drop k) by simp [ints, List.map_drop]] at h; exact h) D256.out (by omega) (by omega) (by omega))
          clear hdl
          go_wp2_with fail
          refine HTK.out.mono ?_
          rintro e w3 ⟨⟨hC, p, rfl⟩ | ⟨i, s, j, hC, rfl⟩, l3⟩
          · have HO := Lib.hid (HNO2.out hC)
            have R3 := R2.later l3
            have HL3 := Lib.hid (HL2.out.trans l3)
            have r0 := R3.cell 0 _ rfl
            have r1 := R3.cell 1 _ rfl
            have r2 := R3.cell 2 _ rfl
            have f0 := R3.frozen 0
            have f1 := R3.frozen 1
            have f2 := R3.frozen 2
            have HR3 := Lib.hid R3
            clear hC l3 R2 R3 HL2 HTK
            go_wp2_with fail
            have R4 := three_blk HR3.out rfl (.int .i64 0) (.int .i64 0) (.string ⟨#[]⟩)
            have L4 := three_later HL3.out (show w.heap.size ≤ g by have := HG.out; omega) (.int .i64 0) (.int .i64 0) (.string ⟨#[]⟩)
            obtain ⟨w4, hw4⟩ : ∃ w4, w4 = (((w3.setCell ⟨g, 0, none⟩ (.int .i64 0)).setCell ⟨g, 1, none⟩ (.int .i64 0)).setCell ⟨g, 2, none⟩ (.string ⟨#[]⟩)) := ⟨_, rfl⟩
            rw [← hw4] at R4 L4 ⊢
            first
              | (have R5 := three_blk R4 rfl (.int .i64 0) (.int .i64 0) (.string ⟨#[]⟩)
                 have L5 := three_later L4 (show w.heap.size ≤ g by have := HG.out; omega) (.int .i64 0) (.int .i64 0) (.string ⟨#[]⟩)
                 obtain ⟨w5, hw5⟩ : ∃ w5, w5 = (((w4.setCell ⟨g, 0, none⟩ (.int .i64 0)).setCell ⟨g, 1, none⟩ (.int .i64 0)).setCell ⟨g, 2, none⟩ (.string ⟨#[]⟩)) := ⟨_, rfl⟩
                 rw [← hw5] at R5 L5 ⊢
                 have x0 := R5.cell 0 _ rfl
                 have x1 := R5.cell 1 _ rfl
                 have x2 := R5.cell 2 _ rfl
                 refine bodyPost_ret (v := .tuple #[vagg 0 0 ⟨#[]⟩, .int .i64 u, .int .i64 (k : Int), .iface 90 (.pointer (some p))]) (by simp [results, Tryd.results61, go_sem, x0, x1, x2]) rfl ?_
                 exact RunPost.no HO.out _ _ _ _ _ L5)
              | (have x0 := R4.cell 0 _ rfl
                 have x1 := R4.cell 1 _ rfl
                 have x2 := R4.cell 2 _ rfl
                 refine bodyPost_ret (v := .tuple #[vagg 0 0 ⟨#[]⟩, .int .i64 u, .int .i64 (k : Int), .iface 90 (.pointer (some p))]) (by simp [results, Tryd.results61, go_sem, x0, x1, x2]) rfl ?_
                 exact RunPost.no HO.out _ _ _ _ _ L4)
          · have HO := Lib.hid (HYES.out i s j hC)
            obtain ⟨S, hS⟩ : ∃ S, S = bstr s := ⟨_, rfl⟩
            have HSS := Lib.hid hS
            rw [← hS]
            have hjb := HJ.out i s j hC
            have R3 := R2.later l3
            have HL3 := Lib.hid (HL2.out.trans l3)
            have r0 := R3.cell 0 _ rfl
            have r1 := R3.cell 1 _ rfl
            have r2 := R3.cell 2 _ rfl
            have f0 := R3.frozen 0
            have f1 := R3.frozen 1
            have f2 := R3.frozen 2
            have HR3 := Lib.hid R3
            have HKJ := Lib.hid (show ((k + j : Nat) : Int) = (k : Int) + (j : Int) by omega)
            clear hC l3 R2 R3 HL2 HTK hS
            go_wp2_with fail
            have R4 := three_blk HR3.out rfl (.int .i64 t) (.int .i64 i) (.string S)
            have L4 := three_later HL3.out (show w.heap.size ≤ g by have := HG.out; omega) (.int .i64 t) (.int .i64 i) (.string S)
            obtain ⟨w4, hw4⟩ : ∃ w4, w4 = (((w3.setCell ⟨g, 0, none⟩ (.int .i64 t)).setCell ⟨g, 1, none⟩ (.int .i64 i)).setCell ⟨g, 2, none⟩ (.string S)) := ⟨_, rfl⟩
            rw [← hw4] at R4 L4 ⊢
            first
              | (have R5 := three_blk R4 rfl (.int .i64 t) (.int .i64 i) (.string S)
                 have L5 := three_later L4 (show w.heap.size ≤ g by have := HG.out; omega) (.int .i64 t) (.int .i64 i) (.string S)
                 obtain ⟨w5, hw5⟩ : ∃ w5, w5 = (((w4.setCell ⟨g, 0, none⟩ (.int .i64 t)).setCell ⟨g, 1, none⟩ (.int .i64 i)).setCell ⟨g, 2, none⟩ (.string S)) := ⟨_, rfl⟩
                 rw [← hw5] at R5 L5 ⊢
                 have x0 := R5.cell 0 _ rfl
                 have x1 := R5.cell 1 _ rfl
                 have x2 := R5.cell 2 _ rfl
                 refine bodyPost_ret (v := .tuple #[vagg t i S, .int .i64 u, .int .i64 ((k : Int) + (j : Int)), .nilIface]) (by simp [results, Tryd.results61, go_sem, x0, x1, x2]) rfl ?_
                 (rw [HSS.out, ← HKJ.out]; exact RunPost.yes HO.out L5))
              | (have x0 := R4.cell 0 _ rfl
                 have x1 := R4.cell 1 _ rfl
                 have x2 := R4.cell 2 _ rfl
                 refine bodyPost_ret (v := .tuple #[vagg t i S, .int .i64 u, .int .i64 ((k : Int) + (j : Int)), .nilIface]) (by simp [results, Tryd.results61, go_sem, x0, x1, x2]) rfl ?_
                 (rw [HSS.out, ← HKJ.out]; exact RunPost.yes HO.out L4))
    · have HO := Lib.hid (HN1.out u k HTN.out hu)
      clear HN0 HN1 HN2 HY0
      by_cases hu1 : u < 1
      · have hd1 : decide ((u : Int) < 1) = true := by simp; omega
        clear hu hu1
        have R2b := R2
        have HLL := Lib.hid HL2.out
        obtain ⟨sa, hsb⟩ := HS2.out.bound
        go_wp2_with fail
        go_region_law (first
          | (go_simp; go_at_call 53; refine (at_l _ _ _ _).mono ?_; rintro e w3 ⟨q2, rfl, l3⟩; have R3 := R2b.drew.later l3; have r0 := R3.cell 0 _ rfl; have r1 := R3.cell 1 _ rfl; have r2 := R3.cell 2 _ rfl; have f0 := R3.frozen 0; have f1 := R3.frozen 1; have f2 := R3.frozen 2; have L3 := HLL.out.drew.trans l3; clear l3))
        all_goals go_wp2_with fail
        all_goals
          have R4 := three_blk R3 rfl (.int .i64 0) (.int .i64 0) (.string ⟨#[]⟩)
          have L4 := three_later L3 (show w.heap.size ≤ g by have := HG.out; omega) (.int .i64 0) (.int .i64 0) (.string ⟨#[]⟩)
          obtain ⟨w4, hw4⟩ : ∃ w4, w4 = (((w3.setCell ⟨g, 0, none⟩ (.int .i64 0)).setCell ⟨g, 1, none⟩ (.int .i64 0)).setCell ⟨g, 2, none⟩ (.string ⟨#[]⟩)) := ⟨_, rfl⟩
          rw [← hw4] at R4 L4 ⊢
          have x0 := R4.cell 0 _ rfl
          have x1 := R4.cell 1 _ rfl
          have x2 := R4.cell 2 _ rfl
          exact bodyPost_ret (v := .tuple #[vagg 0 0 ⟨#[]⟩, .int .i64 0, .int .i64 0, .iface 90 (.pointer (some q2))]) (by simp [results, Tryd.results61, go_sem, x0, x1, x2]) rfl (RunPost.no HO.out _ _ _ _ _ L4)
      · have hd1 : decide ((u : Int) < 1) = false := by simp; omega
        have hd2 : decide ((most : Int) < (u : Int)) = true := by simp; omega
        have hq2 : most < u := by omega
        have hq0 : ¬ u = 0 := by omega
        clear hu
        have R2b := R2
        have HLL := Lib.hid HL2.out
        obtain ⟨sa, hsb⟩ := HS2.out.bound
        go_wp2_with fail
        go_region_law (first
          | (go_simp; go_at_call 53; refine (at_l _ _ _ _).mono ?_; rintro e w3 ⟨q2, rfl, l3⟩; have R3 := R2b.drew.later l3; have r0 := R3.cell 0 _ rfl; have r1 := R3.cell 1 _ rfl; have r2 := R3.cell 2 _ rfl; have f0 := R3.frozen 0; have f1 := R3.frozen 1; have f2 := R3.frozen 2; have L3 := HLL.out.drew.trans l3; clear l3))
        all_goals go_wp2_with fail
        all_goals
          have R4 := three_blk R3 rfl (.int .i64 0) (.int .i64 0) (.string ⟨#[]⟩)
          have L4 := three_later L3 (show w.heap.size ≤ g by have := HG.out; omega) (.int .i64 0) (.int .i64 0) (.string ⟨#[]⟩)
          obtain ⟨w4, hw4⟩ : ∃ w4, w4 = (((w3.setCell ⟨g, 0, none⟩ (.int .i64 0)).setCell ⟨g, 1, none⟩ (.int .i64 0)).setCell ⟨g, 2, none⟩ (.string ⟨#[]⟩)) := ⟨_, rfl⟩
          rw [← hw4] at R4 L4 ⊢
          have x0 := R4.cell 0 _ rfl
          have x1 := R4.cell 1 _ rfl
          have x2 := R4.cell 2 _ rfl
          exact bodyPost_ret (v := .tuple #[vagg 0 0 ⟨#[]⟩, .int .i64 0, .int .i64 0, .iface 90 (.pointer (some q2))]) (by simp [results, Tryd.results61, go_sem, x0, x1, x2]) rfl (RunPost.no HO.out _ _ _ _ _ L4)
  · have HO := Lib.hid (HN0.out hT)
    clear hT hT0 HN0 HN1 HN2 HY0
    have R2b := R2
    have HLL := Lib.hid HL2.out
    obtain ⟨sa, hsb⟩ := HS2.out.bound
    go_wp2_with fail
    go_region_law (first
      | (go_simp; go_at_call 53; refine (at_l _ _ _ _).mono ?_; rintro e w3 ⟨q2, rfl, l3⟩; have R3 := R2b.drew.later l3; have r0 := R3.cell 0 _ rfl; have r1 := R3.cell 1 _ rfl; have r2 := R3.cell 2 _ rfl; have f0 := R3.frozen 0; have f1 := R3.frozen 1; have f2 := R3.frozen 2; have L3 := HLL.out.drew.trans l3; clear l3))
    all_goals go_wp2_with fail
    all_goals
      have R4 := three_blk R3 rfl (.int .i64 0) (.int .i64 0) (.string ⟨#[]⟩)
      have L4 := three_later L3 (show w.heap.size ≤ g by have := HG.out; omega) (.int .i64 0) (.int .i64 0) (.string ⟨#[]⟩)
      obtain ⟨w4, hw4⟩ : ∃ w4, w4 = (((w3.setCell ⟨g, 0, none⟩ (.int .i64 0)).setCell ⟨g, 1, none⟩ (.int .i64 0)).setCell ⟨g, 2, none⟩ (.string ⟨#[]⟩)) := ⟨_, rfl⟩
      rw [← hw4] at R4 L4 ⊢
      have x0 := R4.cell 0 _ rfl
      have x1 := R4.cell 1 _ rfl
      have x2 := R4.cell 2 _ rfl
      exact bodyPost_ret (v := .tuple #[vagg 0 0 ⟨#[]⟩, .int .i64 0, .int .i64 0, .iface 90 (.pointer (some q2))]) (by simp [results, Tryd.results61, go_sem, x0, x1, x2]) rfl (RunPost.no HO.out _ _ _ _ _ L4)
end Go.Proofs.YtifejanbgobngaaDoor
