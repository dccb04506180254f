
import Derived.Test.YtfplppldojlanaaDoorLogG
import Derived.Test.YtfplppldojlanaaDoorDevT
import Derived.Test.YtfplppldojlanaaDoorLogI
import Derived.Test.YtfplppldojlanaaDoorLogO
/- Package log on a device that may have stopped: write, lay. -/

namespace Go.Proofs.YtfplppldojlanaaDoor
open Go.RowKit
set_option linter.unusedVariables false

set_option maxRecDepth 100000 in
set_option maxHeartbeats 2000000 in
theorem logWrite_t (base p gs gn B cs cn : Nat) (A : Option Addr) (cf : Nat) (d : D) (q area gen used i seq : Nat) (A2 : Option Addr) (m c : Nat) (l : List Nat) (w : World) (h : DA w base p gs gn B cs cn A cf d) (hB : B ≤ 4000) (hq : LogBk w q p area gen used) (hg : gen < 4294967296) (hsq : seq < 4294967296) (hi : i < B) (hm : m = l.length) (hl : l.length ≤ 110) (h256 : ∀ x ∈ l, x < 256) (hr : Has w A2 (ints .u8 l)) (hnil : A2 = none → c = 0) (hf : d.fly.length ≤ 100000) (hw : d.writes ≤ 100000 ∧ 0 ≤ d.writes) (hbase : base ≤ w.heap.size) :
    Calls Tryd.prog 43 #[lptr q, .int .i64 i, .int .u32 seq, .slice A2 m c] w fun e w' => e = .returned (.tuple #[]) ∧ DoneG base p gs gn B (d.wrT i (tagB gen seq l)) w w' := by
  subst hm
  have HP := Lib.hid (tagPut_any gen seq A2 l.length c l w hg hsq rfl hr hnil)
  have HQ := Lib.hid hq
  have HD := Lib.hid h
  have hput : putT20 gen seq l = some (tagB gen seq l) := if_pos hl
  have HPUT := Lib.hid hput
  have HTL := Lib.hid (tagB_len (g := gen) (s := seq) hl)
  have HTT := Lib.hid (tagB_lt (g := gen) (s := seq) hl h256)
  have hq2 := hq.cell 2 _ rfl
  clear h hq hr h256 hput
  go_enter Tryd.func43, Tryd.ntmps43
  go_wp2_with fail
  refine HP.out.mono ?_
  intro e w1 hpt
  obtain ⟨A3, c3, rfl, hown, l1⟩ := hpt.yes HPUT.out
  have HW := Lib.hid (devWrite_t base p gs gn B cs cn A cf d i A3 c3 (tagB gen seq l) w1 (HD.out.later l1) hi hB HTL.out (Has.own hown) HTT.out hf hw (Nat.le_trans hbase l1.size) (fun h => by obtain ⟨gb, hgb⟩ := own_some hown (by decide); rw [h] at hgb; cases hgb))
  have hq0 := (HQ.out.later l1).cell 0 _ rfl
  have HL1 := Lib.hid l1
  clear hpt hown l1 hq2 HP
  go_wp2_with fail
  refine HW.out.mono ?_
  rintro e w2 ⟨rfl, hdone⟩
  have HDN := Lib.hid hdone
  clear hdone HW hq0
  go_wp2_with fail
  go_end0
  exact ⟨rfl, HDN.out.1, (KG.later HL1.out).trans HDN.out.2.1, (Below.mono HL1.out.below hbase).trans HDN.out.2.2⟩
/-- The writes of a record. -/
def layT (gen off used : Nat) (r : List Nat) (d : D) : Nat → D
  | 0 => d
  | k + 1 => (layT gen off used r d k).wrT (off + (used + k)) (tagB gen (used + k) (pieceT (recT r) k))
/-- Behind a log's deed: the device, the log. -/
def LayT (base p gs gn B q area gen used : Nat) (δ : D) (w w' : World) : Prop :=
  ∃ (cs cn : Nat) (A : Option Addr) (cf : Nat), DA w' base p gs gn B cs cn A cf δ ∧ LogBk w' q p area gen used ∧ KL gs gn q w w' ∧ Below base w w'
set_option maxRecDepth 100000 in
set_option maxHeartbeats 4000000 in
theorem logLay_t (base p gs gn B cs cn : Nat) (A : Option Addr) (cf : Nat) (d : D) (q area gen used : Nat) (A2 : Option Addr) (n c : Nat) (r : List Nat) (w : World) (f wn : Nat) (h : DA w base p gs gn B cs cn A cf d) (hB : B ≤ 4000) (hq : LogBk w q p area gen used) (hf : FitsD B area) (hg : gen < 4294967296) (hd : DW B f wn d) (hfl : f ≤ 90000) (hwn : wn ≤ 90000) (hbq : base ≤ q)
    (hn : n = r.length) (hr : Has w A2 (ints .u8 r)) (hnil : A2 = none → c = 0) (hr9 : r.length ≤ 990) (h256 : ∀ x ∈ r, x < 256) (hroom : used + blkN r.length ≤ area) :
    Calls Tryd.prog 42 #[lptr q, .slice A2 n c] w fun e w' => e = .returned (.tuple #[]) ∧ LayT base p gs gn B q area gen (used + blkN r.length) (layT gen (offG area gen) used r d (blkN r.length)) w w' := by
  subst hn
  have hb10 : blkN r.length ≤ 10 := by unfold blkN; omega
  have harea : area ≤ 1000 := by have := hf.2.1; omega
  have HP := Lib.hid (show Calls Tryd.prog 56 #[.int .u64 ((r.length : Nat) : Int), .int .i64 ((4 : Nat) : Int)] w (fun e w' => ∃ A c, e = .returned (.slice A 4 c) ∧ w'.ownsRow w.heap.size 5 1 (.slice A 4 c) 4 (ints .u8 (topB r.length 4)) ∧ Later w w' ∧ (A = none → c = 0)) from (high_makes r.length 4 (by omega) (by decide) w).mono fun e w' ⟨A, c, h1, h2, h3, h4⟩ => ⟨A, c, by rw [h1, topB_length], by rw [topB_length] at h2; exact h2, Later.of h3, h4⟩)
  have HDA := Lib.hid h
  have HQ := Lib.hid hq
  have HD := Lib.hid hd
  have HR := Lib.hid hr
  have HNIL := Lib.hid hnil
  have H256 := Lib.hid h256
  have HF := Lib.hid hf
  have hw64 : IntKind.u64.wrap ((r.length : Nat) : Int) = ((r.length : Nat) : Int) := by rw [IntKind.wrap_u64]; omega
  clear h hq hd hr hnil h256 hf
  go_enter Tryd.func42, Tryd.ntmps42
  go_wp2_with fail
  refine HP.out.mono ?_
  rintro e w1 ⟨A1, c1, rfl, hown1, l1, hn1⟩
  obtain ⟨gl, hgl⟩ : ∃ x, w1.heap.size = x := ⟨_, rfl⟩
  obtain ⟨w2, hw2⟩ : ∃ x, w1.alloc (.cells #[.slice A1 4 c1, .slice A2 r.length c] 24) = x := ⟨_, rfl⟩
  have l2 : Later w1 w2 := hw2 ▸ Later.new _ _
  have hbl : Blk w2 gl #[.slice A1 4 c1, .slice A2 r.length c] 24 := hw2 ▸ Blk.new w1 _ _ gl hgl.symm
  have HCT := Lib.hid (concat2_any gl 2 A1 A2 4 r.length c1 c (topB r.length 4) r w2 (topB_length _ _).symm rfl (by omega) (by omega) (by omega) (hbl.cell 0 _ rfl) (hbl.cell 1 _ rfl) (Has.own (own_later hown1 l2)) (HR.out.later (l1.trans l2)) hn1 HNIL.out)
  have HL2 := Lib.hid (l1.trans l2)
  have HW2 := Lib.hid hw2
  have HGL := Lib.hid hgl
  clear hown1 l1 hn1 l2 hbl HP hw2 hgl
  go_wp2_with fail
  try rw [HGL.out]
  rw [HW2.out]
  refine HCT.out.mono ?_
  rintro e w3 ⟨A3, c3, rfl, hown3, l3⟩
  have HL3 := Lib.hid (HL2.out.trans l3)
  have hTl : (topB r.length 4 ++ r).length = (recT r).length := rfl
  rw [hTl] at hown3 ⊢
  have hown3 : w3.ownsRow w2.heap.size 5 1 (.slice A3 (recT r).length c3) (recT r).length (ints .u8 (recT r)) := hown3
  obtain ⟨g3, rfl⟩ := own_some hown3 (by rw [recT_len]; omega)
  have HTX := Lib.hid (show TX w3 (some ⟨g3, 0, none⟩) c3 (recT r) from ⟨.inr ((RB.of_own hown3 0).low (Nat.zero_le _)), (fun h => by cases h), own_cap hown3, own_capmax hown3⟩)
  have HI0 := Lib.hid (show ∃ (k : Nat) (tA : Option Addr) (tc : Nat), Value.slice (some ⟨g3, 0, none⟩) (recT r).length c3 = .slice tA ((recT r).drop (110 * k)).length tc ∧ k ≤ blkN r.length ∧ TX w3 tA tc ((recT r).drop (110 * k)) ∧ LayT base p gs gn B q area gen (used + k) (layT gen (offG area gen) used r d k) w w3 ∧ DW B (f + k) (wn + k) (layT gen (offG area gen) used r d k) from
    ⟨0, _, _, rfl, Nat.zero_le _, HTX.out, ⟨cs, cn, A, cf, HDA.out.later HL3.out, HQ.out.later HL3.out, KL.later HL3.out, Below.mono HL3.out.below (Nat.le_trans hbq (Nat.le_of_lt HQ.out.lt))⟩, HD.out⟩)
  clear hown3 l3 HCT HL2 HTX HDA HQ HD hTl HL3 HW2 HGL
  go_wp2_with fail
  go_loopw [4] (fun tv wr => ∃ (k : Nat) (tA : Option Addr) (tc : Nat), tv = .slice tA ((recT r).drop (110 * k)).length tc ∧ k ≤ blkN r.length ∧ TX wr tA tc ((recT r).drop (110 * k)) ∧ LayT base p gs gn B q area gen (used + k) (layT gen (offG area gen) used r d k) w wr ∧ DW B (f + k) (wn + k) (layT gen (offG area gen) used r d k)) (fun tv _ => slen tv)
  case atStart => exact HI0.out
  case round =>
    obtain ⟨k, tA, tc, rfl, hk, htx, ⟨cs', cn', A', cf', hda, hqb, hkl, hbel⟩, hdo⟩ := hrel
    obtain ⟨d', hd'⟩ : ∃ x, x = layT gen (offG area gen) used r d k := ⟨_, rfl⟩
    rw [← hd'] at hda hdo
    have HNW := Lib.hid hd'
    have HTX := Lib.hid htx
    have HDA := Lib.hid hda
    have HQ := Lib.hid hqb
    have HDO := Lib.hid hdo
    have HKL := Lib.hid hkl
    have HBEL := Lib.hid hbel
    have HMORE := Lib.hid (text_more r k)
    have HNXT := Lib.hid (text_next r k)
    have HDRP := Lib.hid (text_drop r k)
    obtain ⟨L, hL⟩ : ∃ x, (recT r).drop (110 * k) = x := ⟨_, rfl⟩
    rw [hL] at HTX HMORE HNXT HDRP ⊢
    have hLen : L.length ≤ 1000 := by rw [← hL, List.length_drop, recT_len]; omega
    clear HI0 htx hda hqb hdo hkl hbel hL hd'
    by_cases hk2 : k < blkN r.length
    · have hpos : 0 < L.length := HMORE.out.2 hk2
      have hd : decide ((0 : Int) < (L.length : Int)) = true := by rw [decide_eq_true_iff]; omega
      have hd2 : decide (0 < L.length) = true := by rw [decide_eq_true_iff]; omega
      obtain ⟨htx0, _, hLc, hcm⟩ := HTX.out
      have hrb := htx0.resolve_left (fun e => by rw [e] at hpos; simp at hpos)
      obtain ⟨bb, oo, rfl⟩ : ∃ bb oo, tA = some ⟨bb, oo, none⟩ := by obtain ⟨b, o, _, h1, _⟩ := hrb; exact ⟨b, o, h1⟩
      obtain ⟨m, hm⟩ : ∃ m, min L.length 110 = m := ⟨_, rfl⟩
      have hm1 : m ≤ 110 := by omega
      have hm2 : m ≤ L.length := by omega
      have hm3 : 0 < m := by omega
      have HMIN := Lib.hid (show min (L.length : Int) 110 = (m : Int) from by omega)
      have HMIN2 := Lib.hid (show (if (110 : Int) < (L.length : Int) then (110 : Int) else (L.length : Int)) = (m : Int) from by split <;> omega)
      have hmc : (m : Int) ≤ (tc : Int) := by omega
      have hml : (m : Int) ≤ (L.length : Int) := by omega
      have hnx := HNXT.out
      have hdr := HDRP.out
      rw [hm] at hnx hdr
      have HNX := Lib.hid hnx
      have HDR := Lib.hid hdr
      have HRB := Lib.hid hrb
      have HCM := Lib.hid (And.intro hLc hcm)
      have htl : (L.take m).length = m := by rw [List.length_take]; omega
      have HTL := Lib.hid htl
      obtain ⟨u, hu⟩ : ∃ x, used + k = x := ⟨_, rfl⟩
      rw [hu] at HQ
      have hua : u ≤ 1000 := by omega
      have hub : u < area := by omega
      have HU := Lib.hid hu
      have hoff : offG area gen + u < B := by
        have h1 := offG_le (area := area) (gen := gen) (n := B) (by have := HF.out.2.2; omega)
        omega
      clear hu
      have hwu : IntKind.u32.wrap ((u : Nat) : Int) = ((u : Nat) : Int) := by rw [IntKind.wrap_u32]; omega
      have hwi : IntKind.i64.wrap (((u : Nat) : Int) + 1) = ((u : Nat) : Int) + 1 := IntWalk.i64_in _ ⟨by omega, by omega⟩
      obtain ⟨W9, hW9⟩ : ∃ x, x = wr := ⟨_, rfl⟩
      subst hW9
      have HBASE := Lib.hid (show base ≤ W9.heap.size from Nat.le_trans hbq (Nat.le_of_lt HQ.out.lt))
      have HBLK := Lib.hid (fun (W : World) (hW : KG gs gn W9 W ∧ Below base W9 W) => show Calls Tryd.prog 40 #[lptr q, .int .u32 gen, .int .i64 ((u : Nat) : Int)] W (fun e w' => e = .returned (.int .i64 ((offG area gen + u : Nat) : Int)) ∧ W = w') from logBlock_any q p area gen u gen u W (hW.1.blk HQ.out (by decide) (by decide) (by decide)) (by omega) (by omega) hg)
      have h256p : ∀ x ∈ L.take m, x < 256 := by
        intro x hx
        rw [HNX.out] at hx
        have hx2 : x ∈ recT r := List.mem_of_mem_drop (List.mem_of_mem_take hx)
        unfold recT at hx2
        rcases List.mem_append.1 hx2 with h1 | h1
        · exact topB_lt _ _ x h1
        · exact H256.out x h1
      have HWR := Lib.hid (fun (W : World) (lW : Later W9 W) => show Calls Tryd.prog 43 #[lptr q, .int .i64 ((offG area gen + u : Nat) : Int), .int .u32 ((u : Nat) : Int), .slice (some ⟨bb, oo, none⟩) m tc] W (fun e w' => e = .returned (.tuple #[]) ∧ DoneG base p gs gn B (d'.wrT (offG area gen + u) (tagB gen u (pieceT (recT r) k))) W w') from by
        rw [← HNX.out]
        exact logWrite_t base p gs gn B cs' cn' A' cf' d' q area gen u (offG area gen + u) u (some ⟨bb, oo, none⟩) m tc (L.take m) W (HDA.out.later lW) hB (HQ.out.later lW) hg (by omega) hoff HTL.out.symm (by rw [HTL.out]; exact hm1) h256p (((HRB.out.take m).has).later lW) (fun h => by cases h) (by have := HDO.out.fly; omega) ⟨by have := HDO.out.hi; omega, HDO.out.lo⟩ (Nat.le_trans HBASE.out lW.size))
      clear htx0 hLc hcm hrb hnx hdr hm htl HTX h256p
      go_upto_region 2 with fail
      go_cut [5] from 16 to 18 (fun v wx => v = .int .i64 m ∧ W9 = wx)
      case first => as_aux_lemma =>
        by_cases h110 : 110 < L.length
        · have hm' : m = 110 := by have := HMIN.out; omega
          have hdd : decide ((110 : Int) < (L.length : Int)) = true := by rw [decide_eq_true_iff]; omega
          go_wp2_with fail
          all_goals go_meet
          all_goals exact ⟨by rw [hm']; first | rfl | (exfalso; omega), rfl⟩
        · have hm' : L.length = m := by have := HMIN.out; omega
          have HM' := Lib.hid hm'
          have hdd : decide ((110 : Int) < (L.length : Int)) = false := by rw [decide_eq_false_iff_not]; omega
          clear hm'
          go_wp2_with fail
          all_goals go_meet
          all_goals exact ⟨by first | rw [HM'.out] | (exfalso; omega), rfl⟩
      case rest =>
      obtain ⟨rfl, rfl⟩ := hcut
      clear HMIN HMIN2
      go_upto_region 3 with fail
      go_cut [38] from 19 to 38 (fun v wx => (∃ cs cn A cf, DA wx base p gs gn B cs cn A cf (d'.wrT (offG area gen + u) (tagB gen u (pieceT (recT r) k)))) ∧ KG gs gn W9 wx ∧ Below base W9 wx)
      case first => as_aux_lemma =>
        refine wp_region_K (S := fun W : World => KG gs gn W9 W ∧ Below base W9 W) (R := fun a b => a = b) (fun _ => rfl) (by kernel_rfl) ?_
        obtain ⟨wd, hwd⟩ : ∃ x, W9.drew = x := ⟨_, rfl⟩
        have lwd : Later W9 wd := hwd ▸ (Later.refl W9).drew
        have hS : KG gs gn W9 wd ∧ Below base W9 wd := ⟨KG.later lwd, Below.mono lwd.below HBASE.out⟩
        rw [hwd]
        clear hwd
        refine wpAnyK_take (fun _ => rfl) (fun _ _ _ h k => h.trans k) (fun _ _ h k => k ▸ h) (i := 0) (oi := { dst := some 19, op := _, type := _, pos := _, after := _, guard := _ }) (v := ?_) rfl (by kernel_rfl) (by kernel_rfl) (by kernel_rfl) (fun _ _ _ h => h) (Or.inl (Or.inl ⟨by rfl, ?_⟩)) hS ?_
        rotate_left
        focus ((intro w hSw; (try dsimp only at hSw); skip; go_simp); (try with_reducible rfl))
        intro wq' hwq
        subst hwq
        (try simp only [Act.put, List.setIfInBounds_toArray, List.set_cons_zero, List.set_cons_succ])
        refine wpAnyK_take (fun _ => rfl) (fun _ _ _ h k => h.trans k) (fun _ _ h k => k ▸ h) (i := 1) (oi := { dst := some 20, op := _, type := _, pos := _, after := _, guard := _ }) (v := ?_) rfl (by kernel_rfl) (by kernel_rfl) (by kernel_rfl) (fun _ _ _ h => h) (Or.inl (Or.inl ⟨by rfl, ?_⟩)) hS ?_
        rotate_left
        focus ((intro w hSw; (try dsimp only at hSw); skip; go_simp); (try with_reducible rfl))
        intro wq' hwq
        subst hwq
        (try simp only [Act.put, List.setIfInBounds_toArray, List.set_cons_zero, List.set_cons_succ])
        refine wpAnyK_take (fun _ => rfl) (fun _ _ _ h k => h.trans k) (fun _ _ h k => k ▸ h) (i := 2) (oi := { dst := some 21, op := _, type := _, pos := _, after := _, guard := _ }) (v := ?_) rfl (by kernel_rfl) (by kernel_rfl) (by kernel_rfl) (fun _ _ _ h => h) (Or.inl (Or.inl ⟨by rfl, ?_⟩)) hS ?_
        rotate_left
        focus ((intro w hSw; (try dsimp only at hSw); skip; go_simp); (try with_reducible rfl))
        intro wq' hwq
        subst hwq
        (try simp only [Act.put, List.setIfInBounds_toArray, List.set_cons_zero, List.set_cons_succ])
        refine wpAnyK_take (fun _ => rfl) (fun _ _ _ h k => h.trans k) (fun _ _ h k => k ▸ h) (i := 3) (oi := { dst := some 22, op := _, type := _, pos := _, after := _, guard := _ }) (v := ?_) rfl (by kernel_rfl) (by kernel_rfl) (by kernel_rfl) (fun _ _ _ h => h) (Or.inl (Or.inl ⟨by rfl, ?_⟩)) hS ?_
        rotate_left
        focus ((intro w hSw; (try dsimp only at hSw); have q1 := (hSw.1.blk HQ.out (by decide) (by decide) (by decide)).cell 1 _ rfl; have q2 := (hSw.1.blk HQ.out (by decide) (by decide) (by decide)).cell 2 _ rfl; have q3 := (hSw.1.blk HQ.out (by decide) (by decide) (by decide)).cell 3 _ rfl; go_simp); (try with_reducible rfl))
        intro wq' hwq
        subst hwq
        (try simp only [Act.put, List.setIfInBounds_toArray, List.set_cons_zero, List.set_cons_succ])
        refine wpAnyK_take (fun _ => rfl) (fun _ _ _ h k => h.trans k) (fun _ _ h k => k ▸ h) (i := 4) (oi := { dst := some 23, op := _, type := _, pos := _, after := _, guard := _ }) (v := ?_) rfl (by kernel_rfl) (by kernel_rfl) (by kernel_rfl) (fun _ _ _ h => h) (Or.inl (Or.inl ⟨by rfl, ?_⟩)) hS ?_
        rotate_left
        focus ((intro w hSw; (try dsimp only at hSw); skip; go_simp); (try with_reducible rfl))
        intro wq' hwq
        subst hwq
        (try simp only [Act.put, List.setIfInBounds_toArray, List.set_cons_zero, List.set_cons_succ])
        refine wpAnyK_take (fun _ => rfl) (fun _ _ _ h k => h.trans k) (fun _ _ h k => k ▸ h) (i := 5) (oi := { dst := some 24, op := _, type := _, pos := _, after := _, guard := _ }) (v := ?_) rfl (by kernel_rfl) (by kernel_rfl) (by kernel_rfl) (fun _ _ _ h => h) (Or.inl (Or.inl ⟨by rfl, ?_⟩)) hS ?_
        rotate_left
        focus ((intro w hSw; (try dsimp only at hSw); have q1 := (hSw.1.blk HQ.out (by decide) (by decide) (by decide)).cell 1 _ rfl; have q2 := (hSw.1.blk HQ.out (by decide) (by decide) (by decide)).cell 2 _ rfl; have q3 := (hSw.1.blk HQ.out (by decide) (by decide) (by decide)).cell 3 _ rfl; go_simp); (try with_reducible rfl))
        intro wq' hwq
        subst hwq
        (try simp only [Act.put, List.setIfInBounds_toArray, List.set_cons_zero, List.set_cons_succ])
        refine wpAnyK_take (fun _ => rfl) (fun _ _ _ h k => h.trans k) (fun _ _ h k => k ▸ h) (i := 6) (oi := { dst := some 25, op := _, type := _, pos := _, after := _, guard := _ }) (v := ?_) rfl (by kernel_rfl) (by kernel_rfl) (by kernel_rfl) (fun _ _ _ h => h) (Or.inl (Or.inl ⟨by rfl, ?_⟩)) hS ?_
        rotate_left
        focus ((intro w hSw; (try dsimp only at hSw); skip; go_simp); (try with_reducible rfl))
        intro wq' hwq
        subst hwq
        (try simp only [Act.put, List.setIfInBounds_toArray, List.set_cons_zero, List.set_cons_succ])
        refine wpAnyK_take (fun _ => rfl) (fun _ _ _ h k => h.trans k) (fun _ _ h k => k ▸ h) (i := 7) (oi := { dst := some 26, op := _, type := _, pos := _, after := _, guard := _ }) (v := ?_) rfl (by kernel_rfl) (by kernel_rfl) (by kernel_rfl) (fun _ _ _ h => h) (Or.inl (Or.inl ⟨by rfl, ?_⟩)) hS ?_
        rotate_left
        focus ((intro w hSw; (try dsimp only at hSw); have q1 := (hSw.1.blk HQ.out (by decide) (by decide) (by decide)).cell 1 _ rfl; have q2 := (hSw.1.blk HQ.out (by decide) (by decide) (by decide)).cell 2 _ rfl; have q3 := (hSw.1.blk HQ.out (by decide) (by decide) (by decide)).cell 3 _ rfl; go_simp); (try with_reducible rfl))
        intro wq' hwq
        subst hwq
        (try simp only [Act.put, List.setIfInBounds_toArray, List.set_cons_zero, List.set_cons_succ])
        refine wpAnyK_take (fun _ => rfl) (fun _ _ _ h k => h.trans k) (fun _ _ h k => k ▸ h) (i := 8) (oi := { dst := some 27, op := _, type := _, pos := _, after := _, guard := _ }) (v := ?_) rfl (by kernel_rfl) (by kernel_rfl) (by kernel_rfl) (fun _ _ _ h => h) (Or.inl (Or.inl ⟨by rfl, ?_⟩)) hS ?_
        rotate_left
        focus ((intro w hSw; (try dsimp only at hSw); skip; go_simp); (try with_reducible rfl))
        intro wq' hwq
        subst hwq
        (try simp only [Act.put, List.setIfInBounds_toArray, List.set_cons_zero, List.set_cons_succ])
        refine wpAnyK_take (fun _ => rfl) (fun _ _ _ h k => h.trans k) (fun _ _ h k => k ▸ h) (i := 9) (oi := { dst := some 28, op := _, type := _, pos := _, after := _, guard := _ }) (v := ?_) rfl (by kernel_rfl) (by kernel_rfl) (by kernel_rfl) (fun _ _ _ h => h) (Or.inl (Or.inl ⟨by rfl, ?_⟩)) hS ?_
        rotate_left
        focus ((intro w hSw; (try dsimp only at hSw); have q1 := (hSw.1.blk HQ.out (by decide) (by decide) (by decide)).cell 1 _ rfl; have q2 := (hSw.1.blk HQ.out (by decide) (by decide) (by decide)).cell 2 _ rfl; have q3 := (hSw.1.blk HQ.out (by decide) (by decide) (by decide)).cell 3 _ rfl; go_simp); (try with_reducible rfl))
        intro wq' hwq
        subst hwq
        (try simp only [Act.put, List.setIfInBounds_toArray, List.set_cons_zero, List.set_cons_succ])
        refine wpAnyK_take (fun _ => rfl) (fun _ _ _ h k => h.trans k) (fun _ _ h k => k ▸ h) (i := 10) (oi := { dst := some 29, op := _, type := _, pos := _, after := _, guard := _ }) (v := .int .i64 ((offG area gen + u : Nat) : Int)) rfl (by kernel_rfl) (by kernel_rfl) (by kernel_rfl) (fun _ _ _ h => h) (Or.inr ⟨by rfl, 40, #[lptr q, .int .u32 gen, .int .i64 (u : Int)], fun W hW => ⟨?_, HBLK.out W hW⟩⟩) hS ?_
        · first | rfl | (go_simp; done)
        intro wq' hwq
        subst hwq
        (try simp only [Act.put, List.setIfInBounds_toArray, List.set_cons_zero, List.set_cons_succ])
        refine wpAnyK_take (fun _ => rfl) (fun _ _ _ h k => h.trans k) (fun _ _ h k => k ▸ h) (i := 11) (oi := { dst := some 30, op := _, type := _, pos := _, after := _, guard := _ }) (v := ?_) rfl (by kernel_rfl) (by kernel_rfl) (by kernel_rfl) (fun _ _ _ h => h) (Or.inl (Or.inl ⟨by rfl, ?_⟩)) hS ?_
        rotate_left
        focus ((intro w hSw; (try dsimp only at hSw); skip; go_simp); (try with_reducible rfl))
        intro wq' hwq
        subst hwq
        (try simp only [Act.put, List.setIfInBounds_toArray, List.set_cons_zero, List.set_cons_succ])
        refine wpAnyK_take (fun _ => rfl) (fun _ _ _ h k => h.trans k) (fun _ _ h k => k ▸ h) (i := 12) (oi := { dst := some 31, op := _, type := _, pos := _, after := _, guard := _ }) (v := ?_) rfl (by kernel_rfl) (by kernel_rfl) (by kernel_rfl) (fun _ _ _ h => h) (Or.inl (Or.inl ⟨by rfl, ?_⟩)) hS ?_
        rotate_left
        focus ((intro w hSw; (try dsimp only at hSw); have q1 := (hSw.1.blk HQ.out (by decide) (by decide) (by decide)).cell 1 _ rfl; have q2 := (hSw.1.blk HQ.out (by decide) (by decide) (by decide)).cell 2 _ rfl; have q3 := (hSw.1.blk HQ.out (by decide) (by decide) (by decide)).cell 3 _ rfl; go_simp); (try with_reducible rfl))
        intro wq' hwq
        subst hwq
        (try simp only [Act.put, List.setIfInBounds_toArray, List.set_cons_zero, List.set_cons_succ])
        refine wpAnyK_take (fun _ => rfl) (fun _ _ _ h k => h.trans k) (fun _ _ h k => k ▸ h) (i := 13) (oi := { dst := some 32, op := _, type := _, pos := _, after := _, guard := _ }) (v := ?_) rfl (by kernel_rfl) (by kernel_rfl) (by kernel_rfl) (fun _ _ _ h => h) (Or.inl (Or.inl ⟨by rfl, ?_⟩)) hS ?_
        rotate_left
        focus ((intro w hSw; (try dsimp only at hSw); skip; go_simp); (try with_reducible rfl))
        intro wq' hwq
        subst hwq
        (try simp only [Act.put, List.setIfInBounds_toArray, List.set_cons_zero, List.set_cons_succ])
        refine wpAnyK_take (fun _ => rfl) (fun _ _ _ h k => h.trans k) (fun _ _ h k => k ▸ h) (i := 14) (oi := { dst := some 33, op := _, type := _, pos := _, after := _, guard := _ }) (v := ?_) rfl (by kernel_rfl) (by kernel_rfl) (by kernel_rfl) (fun _ _ _ h => h) (Or.inl (Or.inl ⟨by rfl, ?_⟩)) hS ?_
        rotate_left
        focus ((intro w hSw; (try dsimp only at hSw); have q1 := (hSw.1.blk HQ.out (by decide) (by decide) (by decide)).cell 1 _ rfl; have q2 := (hSw.1.blk HQ.out (by decide) (by decide) (by decide)).cell 2 _ rfl; have q3 := (hSw.1.blk HQ.out (by decide) (by decide) (by decide)).cell 3 _ rfl; go_simp); (try with_reducible rfl))
        intro wq' hwq
        subst hwq
        (try simp only [Act.put, List.setIfInBounds_toArray, List.set_cons_zero, List.set_cons_succ])
        refine wpAnyK_take (fun _ => rfl) (fun _ _ _ h k => h.trans k) (fun _ _ h k => k ▸ h) (i := 15) (oi := { dst := some 34, op := _, type := _, pos := _, after := _, guard := _ }) (v := ?_) rfl (by kernel_rfl) (by kernel_rfl) (by kernel_rfl) (fun _ _ _ h => h) (Or.inl (Or.inl ⟨by rfl, ?_⟩)) hS ?_
        rotate_left
        focus ((intro w hSw; (try dsimp only at hSw); skip; go_simp); (try with_reducible rfl))
        intro wq' hwq
        subst hwq
        (try simp only [Act.put, List.setIfInBounds_toArray, List.set_cons_zero, List.set_cons_succ])
        refine wpAnyK_take (fun _ => rfl) (fun _ _ _ h k => h.trans k) (fun _ _ h k => k ▸ h) (i := 16) (oi := { dst := some 35, op := _, type := _, pos := _, after := _, guard := _ }) (v := ?_) rfl (by kernel_rfl) (by kernel_rfl) (by kernel_rfl) (fun _ _ _ h => h) (Or.inl (Or.inl ⟨by rfl, ?_⟩)) hS ?_
        rotate_left
        focus ((intro w hSw; (try dsimp only at hSw); skip; go_simp); (try with_reducible rfl))
        intro wq' hwq
        subst hwq
        (try simp only [Act.put, List.setIfInBounds_toArray, List.set_cons_zero, List.set_cons_succ])
        refine wpAnyK_take (fun _ => rfl) (fun _ _ _ h k => h.trans k) (fun _ _ h k => k ▸ h) (i := 17) (oi := { dst := some 36, op := _, type := _, pos := _, after := _, guard := _ }) (v := ?_) rfl (by kernel_rfl) (by kernel_rfl) (by kernel_rfl) (fun _ _ _ h => h) (Or.inl (Or.inl ⟨by rfl, ?_⟩)) hS ?_
        rotate_left
        focus ((intro w hSw; (try dsimp only at hSw); skip; go_simp); (try with_reducible rfl))
        intro wq' hwq
        subst hwq
        (try simp only [Act.put, List.setIfInBounds_toArray, List.set_cons_zero, List.set_cons_succ])
        refine wpAnyK_take (fun _ => rfl) (fun _ _ _ h k => h.trans k) (fun _ _ h k => k ▸ h) (i := 18) (oi := { dst := some 37, op := _, type := _, pos := _, after := _, guard := _ }) (v := ?_) rfl (by kernel_rfl) (by kernel_rfl) (by kernel_rfl) (fun _ _ _ h => h) (Or.inl (Or.inl ⟨by rfl, ?_⟩)) hS ?_
        rotate_left
        focus ((intro w hSw; (try dsimp only at hSw); skip; go_simp); (try with_reducible rfl))
        intro wq' hwq
        subst hwq
        (try simp only [Act.put, List.setIfInBounds_toArray, List.set_cons_zero, List.set_cons_succ])
        refine wpAnyK_all (rs := [19]) (by kernel_rfl) (by simp) (fun i hi => ?_)
        simp only [List.mem_cons, List.not_mem_nil, or_false] at hi
        subst hi
        refine stepK (o := { dst := some 38, op := _, type := _, pos := _, after := _, guard := _ }) rfl (fun K hK => ?_)
        go_simp
        refine (HWR.out wd lwd).mono ?_
        rintro e w7 ⟨rfl, hda7, hkg7, hbl7⟩
        replace hS : KG gs gn W9 w7 ∧ Below base W9 w7 := ⟨hS.1.trans hkg7, hS.2.trans hbl7⟩
        have HDA7 := Lib.hid hda7
        refine hK _ _ hS ?_
        clear hK hda7 hkg7 hbl7
        intro wq' hwq
        subst hwq
        (try simp only [Act.put, List.setIfInBounds_toArray, List.set_cons_zero, List.set_cons_succ])
        refine wpAnyK_done (by kernel_rfl) ?_ _
        have HS2 := Lib.hid hS
        clear hS
        go_wp2_with fail
        go_meet
        exact ⟨HDA7.out, HS2.out.1, HS2.out.2⟩
      case rest =>
      obtain ⟨⟨cs2, cn2, A22, cf2, hda2⟩, hkg2, hbl2⟩ := hcut
      have hq2 := hkg2.blk HQ.out (by decide) (by decide) (by decide)
      have q3 := hq2.cell 3 _ rfl
      have f3 := hq2.frozen 3
      have HQ2 := Lib.hid hq2
      have HDA2 := Lib.hid hda2
      have HKG2 := Lib.hid hkg2
      have HBL2 := Lib.hid hbl2
      have HRBK := Lib.hid (HRB.out.kl (q := q) HKG2.out.kl HQ.out)
      clear hda2 hkg2 hbl2 hq2 HWR HBLK HDA HQ HRB
      have hlt : layT gen (offG area gen) used r d (k + 1) = d'.wrT (offG area gen + u) (tagB gen u (pieceT (recT r) k)) := by
        show (layT gen (offG area gen) used r d k).wrT _ _ = _
        rw [← HNW.out, HU.out]
      have hfin : LayT base p gs gn B q area gen (used + (k + 1)) (layT gen (offG area gen) used r d (k + 1)) w (wc.setCell ⟨q, 3, none⟩ (.int .i64 (((u : Nat) : Int) + 1))) ∧ DW B (f + (k + 1)) (wn + (k + 1)) (layT gen (offG area gen) used r d (k + 1)) := by
        rw [hlt]
        refine ⟨⟨cs2, cn2, A22, cf2, HDA2.out.set HQ2.out 3 _, ?_, (HKL.out.trans HKG2.out.kl).trans (KL.set wc 3 _), ?_⟩, HDO.out.wrT hoff _⟩
        · have := HQ2.out.set_ 3 (.int .i64 (((u : Nat) : Int) + 1))
          rw [show used + (k + 1) = u + 1 by have := HU.out; omega]
          exact this
        · exact (HBEL.out.trans HBL2.out).trans (Below.setCell (p := ⟨q, 3, none⟩) (Below.refl _ _) hbq _)
      have HFIN := Lib.hid hfin
      have HRB2 := Lib.hid ((HRBK.out).kl (KL.set (gs := gs) (gn := gn) wc 3 (.int .i64 (((u : Nat) : Int) + 1))) HQ2.out)
      clear hfin hlt HRBK HDA2 HKG2 HBL2 HDO HNW HKL HBEL HQ2
      by_cases htm : tc = m
      · have hLm : L.length = m := by have := HCM.out.1; omega
        have hnil0 : L.drop m = [] := List.drop_of_length_le (by omega)
        have HX := Lib.hid (show (recT r).drop (110 * (k + 1)) = [] from by rw [← HDR.out]; exact hnil0)
        clear hnil0
        subst htm
        go_wp2_with fail
        go_roundw
        case rel => exact ⟨k + 1, _, _, by first | (rw [HX.out]; done) | (rw [HX.out]; rfl), hk2, by rw [HX.out]; exact ⟨.inl rfl, (fun h => by cases h), Nat.le_refl _, by omega⟩, HFIN.out⟩
        case measure => simp [slen]; omega
      · have hz1 : ¬ (tc : Int) - (m : Int) = 0 := by omega
        have hz2 : ¬ tc - m = 0 := by omega
        have hz3 : m < tc := by omega
        have HDL := Lib.hid (show (L.drop m).length = L.length - m from List.length_drop)
        have HRD := Lib.hid (HRB2.out.drop m)
        go_wp2_with fail
        go_roundw
        case rel => exact ⟨k + 1, _, _, by rw [← HDR.out, HDL.out], hk2, by rw [← HDR.out]; exact ⟨.inr HRD.out, (fun h => by cases h), by rw [HDL.out]; have := HCM.out.1; omega, by have := HCM.out.2; omega⟩, HFIN.out⟩
        case measure => simp [slen]; omega
    · have hke : k = blkN r.length := by omega
      have hL0 : L.length = 0 := by
        rcases Nat.eq_zero_or_pos L.length with h | h
        · exact h
        · exact absurd (HMORE.out.1 h) hk2
      have hd : decide ((0 : Int) < (L.length : Int)) = false := by rw [decide_eq_false_iff_not]; omega
      have hd2 : decide (0 < L.length) = false := by rw [decide_eq_false_iff_not]; omega
      have HFIN := Lib.hid (show LayT base p gs gn B q area gen (used + blkN r.length) (layT gen (offG area gen) used r d (blkN r.length)) w wr from by
        rw [← hke, ← HNW.out]
        exact ⟨cs', cn', A', cf', HDA.out, HQ.out, HKL.out, HBEL.out⟩)
      clear hke hL0 HDA HQ HDO HNW HKL HBEL HMORE HNXT HDRP
      go_wp2_with fail
      go_end0
      exact ⟨rfl, HFIN.out⟩
end Go.Proofs.YtfplppldojlanaaDoor

/- Package log on a device that may have stopped: anew. (tools/gen_logx.py) -/

namespace Go.Proofs.YtfplppldojlanaaDoor
open Go.RowKit
set_option linter.unusedVariables false

/-- The writes of noughts; of records; of all of Anew. -/
def zeroT (off : Nat) (d : D) : Nat → D
  | 0 => d
  | k + 1 => (zeroT off d k).wrT (off + k) (List.replicate 128 0)
def laysT (gen off : Nat) : Nat → List (List Nat) → D → D
  | _, [], d => d
  | used, r :: rs, d => laysT gen off (used + blkN r.length) rs (layT gen off used r d (blkN r.length))
def anewT (gen area : Nat) (L : List (List Nat)) (d : D) : D :=
  (((laysT gen (offG area gen) 0 L (zeroT (offG area gen) d area).flT).flT).wrT (gen % 2) (tagB gen 4294967295 [])).flT
theorem laysT_snoc (gen off : Nat) : ∀ (used : Nat) (L : List (List Nat)) (r : List Nat) (d : D), laysT gen off used (L ++ [r]) d = layT gen off (used + sumN L) r (laysT gen off used L d) (blkN r.length)
  | used, [], r, d => by simp [laysT, sumN]
  | used, x :: L, r, d => by
    have h := laysT_snoc gen off (used + blkN x.length) L r (layT gen off used x d (blkN x.length))
    show laysT gen off (used + blkN x.length) (L ++ [r]) _ = _
    rw [h]
    have e : sumN (x :: L) = blkN x.length + sumN L := by unfold sumN; rw [List.map_cons, List.sum_cons]
    rw [e, Nat.add_assoc]
    rfl
theorem layT_dwk {B f n gen used : Nat} {r : List Nat} {d : D} (h : DW B f n d) (off : Nat) : ∀ k, off + used + k ≤ B → DW B (f + k) (n + k) (layT gen off used r d k)
  | 0, _ => h
  | k + 1, hk => (layT_dwk h off k (by omega)).wrT (by omega) _
theorem layT_dw {B f n gen used : Nat} {r : List Nat} {d : D} (h : DW B f n d) (off : Nat) (hk : off + (used + blkN r.length) ≤ B) : DW B (f + blkN r.length) (n + blkN r.length) (layT gen off used r d (blkN r.length)) := layT_dwk h off _ (by omega)
/-- Behind a log's deed, with bounds. -/
def LT (base p gs gn B q area gen used f wn : Nat) (δ : D) (w w' : World) : Prop := LayT base p gs gn B q area gen used δ w w' ∧ DW B f wn δ
theorem layT_flush {base p gs gn B q area gen used f wn : Nat} {δ : D} {w wr : World} (h : LT base p gs gn B q area gen used f wn δ w wr) (hB : B ≤ 4000) (hf : f ≤ 100000) (hbq : base ≤ q) :
    Calls Tryd.prog 41 #[dptr p] wr fun e w' => e = .returned (.tuple #[]) ∧ LT base p gs gn B q area gen used f wn δ.flT w w' := by
  obtain ⟨⟨cs, cn, A, cf, h1, h2, h5, h6⟩, h3⟩ := h
  refine (devFlush_t base p gs gn B cs cn A cf δ wr h1 hB (by have := h3.fly; omega) h3.at_ (Nat.le_trans hbq (Nat.le_of_lt h2.lt))).mono ?_
  rintro e w' ⟨he, ⟨cs2, cn2, A2, cf2, hd⟩, hk, hb⟩
  exact ⟨he, ⟨cs2, cn2, A2, cf2, hd, hk.blk h2 (by decide) (by decide) (by decide), h5.trans hk.kl, h6.trans hb⟩, h3.flT⟩
theorem layT_slot {base p gs gn B q area gen used f wn : Nat} {δ : D} {w wr : World} (h : LT base p gs gn B q area gen used f wn δ w wr) (hB : B ≤ 4000) (hf : f ≤ 90000) (hwn : wn ≤ 90000) (hbq : base ≤ q) (hg : gen < 4294967296) (i : Nat) (hi : i < B) :
    Calls Tryd.prog 43 #[lptr q, .int .i64 i, .int .u32 4294967295, .slice none 0 0] wr fun e w' => e = .returned (.tuple #[]) ∧ LT base p gs gn B q area gen used (f + 1) (wn + 1) (δ.wrT i (tagB gen 4294967295 [])) w w' := by
  obtain ⟨⟨cs, cn, A, cf, h1, h2, h5, h6⟩, h3⟩ := h
  refine (logWrite_t base p gs gn B cs cn A cf δ q area gen used i 4294967295 none 0 0 [] wr h1 hB h2 hg (by decide) hi rfl (by decide) (fun x hx => by cases hx) (.inl rfl) (fun _ => rfl) (by have := h3.fly; omega) ⟨by have := h3.hi; omega, h3.lo⟩ (Nat.le_trans hbq (Nat.le_of_lt h2.lt))).mono ?_
  rintro e w' ⟨he, ⟨cs2, cn2, A2, cf2, hd⟩, hk, hb⟩
  exact ⟨he, ⟨cs2, cn2, A2, cf2, hd, hk.blk h2 (by decide) (by decide) (by decide), h5.trans hk.kl, h6.trans hb⟩, h3.wrT hi _⟩
/-- What anew gives. -/
def AnewT (base p gs gn B q area gen f wn : Nat) (d : D) (L : List (List Nat)) (w : World) (e : Ending) (w' : World) : Prop :=
  (fitsE area L ≠ 0 ∧ (∃ v, e = .returned v ∧ WrapsE w' v (fitsE area L)) ∧ Later w w') ∨
  (fitsE area L = 0 ∧ e = .returned .nilIface ∧ LT base p gs gn B q area (gen + 1) (sumN L) (f + area + sumN L + 1) (wn + area + sumN L + 1) (anewT (gen + 1) area L d) w w')

set_option maxRecDepth 100000 in
set_option maxHeartbeats 4000000 in
theorem logAnew_t (base p gs gn B cs cn : Nat) (A : Option Addr) (cf : Nat) (d : D) (q area gen used : Nat) (T : Option Addr) (n c : Nat) (ss : List SlB) (w : World) (f wn : Nat) (h : DA w base p gs gn B cs cn A cf d) (hB : B ≤ 4000) (hq : LogBk w q p area gen used) (hf : FitsD B area) (hg : gen + 1 ≤ 4294967294) (hd : DW B f wn d) (hfl : f ≤ 20000) (hwn : wn ≤ 20000) (hbq : base ≤ q)
    (hn : n = ss.length) (hl : ss.length ≤ 1000) (hstab : ∀ W, KL gs gn q w W → Below base w W → Has W T (ss.map SlB.v) ∧ ∀ s ∈ ss, Has W s.a (ints .u8 s.l)) (hs : ∀ s ∈ ss, s.l.length ≤ 990 ∧ (∀ x ∈ s.l, x < 256) ∧ (s.a = none → s.c = 0)) :
    Calls Tryd.prog 26 #[lptr q, .slice T n c] w (AnewT base p gs gn B q area gen f wn d (ss.map (·.l)) w) := by
  subst hn
  have harea : area ≤ 1000 := by have := hf.2.1; omega
  have HFT := Lib.hid (logFits_any area T ss.length c ss w rfl (by omega) (hstab w (KL.refl w) (Below.refl _ _)).1 (fun s hs' => by have := (hs s hs').1; omega))
  have HDA := Lib.hid h
  have HQ := Lib.hid hq
  have HD := Lib.hid hd
  have HST := Lib.hid hstab
  have HSS := Lib.hid hs
  have HF := Lib.hid hf
  have q1 := hq.cell 1 _ rfl
  have hif : Tryd.prog.isIface 57 = true := by kernel_rfl
  have HEQ := Lib.hid (fun (w : World) (v : Value) => run_eql_iface_nil (P := Tryd.prog) (w := w) 57 hif 86 v)
  have M128 := Lib.hid (show ∀ W : World, (Instr.makeSlice 24 (.int .i64 128) (.int .i64 128)).run Tryd.prog W = .ok (.slice (some ⟨W.heap.size, 0, none⟩) 128 128) (W.alloc (.cells (madeCells #[.int .u8 0] 128) 5)) from fun W => run_make_cap 128 128 (Nat.le_refl _) (by omega) W)
  have MC := Lib.hid (show madeCells #[.int .u8 0] 128 = (ints .u8 (List.replicate 128 0)).toArray from by kernel_rfl)
  obtain ⟨L, hL⟩ : ∃ x, ss.map (·.l) = x := ⟨_, rfl⟩
  rw [hL] at HFT ⊢
  have HL := Lib.hid hL
  clear h hq hd hstab hs hf hif hL
  go_enter Tryd.func26, Tryd.ntmps26
  go_wp2_with fail
  refine HFT.out.mono ?_
  rintro e w1 ⟨⟨hz, rfl⟩ | ⟨hz, v, rfl, hv⟩, l1⟩
  · have hQ1 := HQ.out.later l1
    have c2 := hQ1.cell 2 _ rfl
    have c3 := hQ1.cell 3 _ rfl
    have f2 := hQ1.frozen 2
    have f3 := hQ1.frozen 3
    obtain ⟨g2, hg2⟩ : ∃ x, gen + 1 = x := ⟨_, rfl⟩
    have hwg : IntKind.u32.wrap ((gen : Int) + 1) = (g2 : Int) := by rw [IntKind.wrap_u32]; omega
    have HZ := Lib.hid hz
    have HG2 := Lib.hid hg2
    have HL1 := Lib.hid l1
    have hQ2 : LogBk ((w1.setCell ⟨q, 2, none⟩ (.int .u32 (g2 : Int))).setCell ⟨q, 3, none⟩ (.int .i64 0)) q p area g2 0 := (hQ1.set_ 2 _).set_ 3 _
    have k1 := hQ2.cell 1 _ rfl
    have HQ2 := Lib.hid hQ2
    have HQ1 := Lib.hid hQ1
    have HI0 := Lib.hid (show LT base p gs gn B q area g2 0 f wn d w ((w1.setCell ⟨q, 2, none⟩ (.int .u32 (g2 : Int))).setCell ⟨q, 3, none⟩ (.int .i64 0)) from
      ⟨⟨cs, cn, A, cf, ((HDA.out.later l1).set hQ1 2 _).set (hQ1.set_ 2 _) 3 _, hQ2, ((KL.later l1).trans (KL.set w1 2 _)).trans (KL.set _ 3 _),
        ((Below.mono l1.below (Nat.le_trans hbq (Nat.le_of_lt HQ.out.lt))).trans (Below.setCell (p := ⟨q, 2, none⟩) (Below.refl _ _) hbq _)).trans (Below.setCell (p := ⟨q, 3, none⟩) (Below.refl _ _) hbq _)⟩, HD.out⟩)
    have HI1 := Lib.hid (show ∃ k : Nat, Value.int .i64 0 = .int .i64 k ∧ k ≤ area ∧ LT base p gs gn B q area g2 0 (f + k) (wn + k) (zeroT (offG area g2) d k) w ((w1.setCell ⟨q, 2, none⟩ (.int .u32 (g2 : Int))).setCell ⟨q, 3, none⟩ (.int .i64 0)) from
      ⟨0, rfl, Nat.zero_le _, HI0.out⟩)
    clear hQ1 hQ2 hz hg2 l1 HDA HD HQ HFT q1 HQ1 HI0
    go_wp2_with fail
    go_loopw [33] (fun iv wr => ∃ k : Nat, iv = .int .i64 k ∧ k ≤ area ∧ LT base p gs gn B q area g2 0 (f + k) (wn + k) (zeroT (offG area g2) d k) w wr) (fun iv _ => area - (intOf iv).toNat)
    case atStart => exact HI1.out
    case round =>
      obtain ⟨k, rfl, hk, hlay⟩ := hrel
      have HLAY := Lib.hid hlay
      clear HI1 hlay
      by_cases hlt : k < area
      · have hd1 : decide ((k : Int) < (area : Int)) = true := by rw [decide_eq_true_iff]; omega
        have hd2 : decide (k < area) = true := by rw [decide_eq_true_iff]; omega
        obtain ⟨d1, hd1q⟩ : ∃ x, zeroT (offG area g2) d k = x := ⟨_, rfl⟩
        obtain ⟨⟨cs1, cn1, A1, cf1, hda, hqb, hkl, hbel⟩, hdo⟩ := HLAY.out
        rw [hd1q] at hda hdo
        have HDA := Lib.hid hda
        have HQ := Lib.hid hqb
        have HDO := Lib.hid hdo
        obtain ⟨W9, hW9⟩ : ∃ x, x = wr := ⟨_, rfl⟩
        subst hW9
        have HBASE := Lib.hid (show base ≤ W9.heap.size from Nat.le_trans hbq (Nat.le_of_lt hqb.lt))
        have hoff : offG area g2 + k < B := by
          have h1 := offG_le (area := area) (gen := g2) (n := B) (by have := HF.out.2.2; omega)
          omega
        have HBLK := Lib.hid (fun (W : World) (hW : KG gs gn W9 W ∧ Below base W9 W) => show Calls Tryd.prog 40 #[lptr q, .int .u32 g2, .int .i64 (k : Int)] W (fun e w' => e = .returned (.int .i64 ((offG area g2 + k : Nat) : Int)) ∧ W = w') from logBlock_any q p area g2 0 g2 k W (hW.1.blk HQ.out (by decide) (by decide) (by decide)) (by omega) (by omega) (by have := HG2.out; omega))
        have HWR := Lib.hid (fun (W : World) (gm : Nat) (lW : Later W9 W) (hz : Has W (some ⟨gm, 0, none⟩) (ints .u8 (List.replicate 128 0))) => show Calls Tryd.prog 39 #[dptr p, .int .i64 ((offG area g2 + k : Nat) : Int), .slice (some ⟨gm, 0, none⟩) 128 128] W (fun e w' => e = .returned (.bool true) ∧ DoneG base p gs gn B (d1.wrT (offG area g2 + k) (List.replicate 128 0)) W w') from
          devWrite_t base p gs gn B cs1 cn1 A1 cf1 d1 (offG area g2 + k) (some ⟨gm, 0, none⟩) 128 (List.replicate 128 0) W (HDA.out.later lW) hoff hB (List.length_replicate) hz (fun x hx => by rw [List.eq_of_mem_replicate hx]; decide) (by have := HDO.out.fly; omega) ⟨by have := HDO.out.hi; omega, HDO.out.lo⟩ (Nat.le_trans HBASE.out lW.size) (fun h => by cases h))
        have HNEXT := Lib.hid (fun (W : World) (hda2 : ∃ cs cn A cf, DA W base p gs gn B cs cn A cf (d1.wrT (offG area g2 + k) (List.replicate 128 0))) (hkg : KG gs gn W9 W) (hbl : Below base W9 W) => show LT base p gs gn B q area g2 0 (f + (k + 1)) (wn + (k + 1)) (zeroT (offG area g2) d (k + 1)) w W from by
          have e : zeroT (offG area g2) d (k + 1) = d1.wrT (offG area g2 + k) (List.replicate 128 0) := by rw [← hd1q]; rfl
          rw [e]
          obtain ⟨cs2, cn2, A2, cf2, hd2⟩ := hda2
          exact ⟨⟨cs2, cn2, A2, cf2, hd2, hkg.blk hqb (by decide) (by decide) (by decide), hkl.trans hkg.kl, hbel.trans hbl⟩, hdo.wrT hoff _⟩)
        clear hda hqb hdo hkl hbel HDA HDO HLAY
        go_upto_region 8 with fail
        refine wp_region_K (S := fun W : World => KG gs gn W9 W ∧ Below base W9 W) (R := fun a b => a = b) (fun _ => rfl) (by kernel_rfl) ?_
        obtain ⟨wd, hwd⟩ : ∃ x, W9.drew = x := ⟨_, rfl⟩
        have lwd : Later W9 wd := hwd ▸ (Later.refl W9).drew
        have hS : KG gs gn W9 wd ∧ Below base W9 wd := ⟨KG.later lwd, Below.mono lwd.below HBASE.out⟩
        rw [hwd]
        clear hwd
        refine wpAnyK_take (fun _ => rfl) (fun _ _ _ h k => h.trans k) (fun _ _ h k => k ▸ h) (i := 0) (oi := { dst := some 36, op := _, type := _, pos := _, after := _, guard := _ }) (v := ?_) rfl (by kernel_rfl) (by kernel_rfl) (by kernel_rfl) (fun _ _ _ h => h) (Or.inl (Or.inl ⟨by rfl, ?_⟩)) hS ?_
        rotate_left
        focus ((intro w hSw; (try dsimp only at hSw); skip; go_simp); (try with_reducible rfl))
        intro wq' hwq
        subst hwq
        (try simp only [Act.put, List.setIfInBounds_toArray, List.set_cons_zero, List.set_cons_succ])
        refine wpAnyK_take (fun _ => rfl) (fun _ _ _ h k => h.trans k) (fun _ _ h k => k ▸ h) (i := 1) (oi := { dst := some 37, op := _, type := _, pos := _, after := _, guard := _ }) (v := ?_) rfl (by kernel_rfl) (by kernel_rfl) (by kernel_rfl) (fun _ _ _ h => h) (Or.inl (Or.inl ⟨by rfl, ?_⟩)) hS ?_
        rotate_left
        focus ((intro w hSw; (try dsimp only at hSw); have q0 := (hSw.1.blk HQ.out (by decide) (by decide) (by decide)).cell 0 _ rfl; have q1 := (hSw.1.blk HQ.out (by decide) (by decide) (by decide)).cell 1 _ rfl; have q2 := (hSw.1.blk HQ.out (by decide) (by decide) (by decide)).cell 2 _ rfl; go_simp); (try with_reducible rfl))
        intro wq' hwq
        subst hwq
        (try simp only [Act.put, List.setIfInBounds_toArray, List.set_cons_zero, List.set_cons_succ])
        refine wpAnyK_take (fun _ => rfl) (fun _ _ _ h k => h.trans k) (fun _ _ h k => k ▸ h) (i := 2) (oi := { dst := some 38, op := _, type := _, pos := _, after := _, guard := _ }) (v := ?_) rfl (by kernel_rfl) (by kernel_rfl) (by kernel_rfl) (fun _ _ _ h => h) (Or.inl (Or.inl ⟨by rfl, ?_⟩)) hS ?_
        rotate_left
        focus ((intro w hSw; (try dsimp only at hSw); skip; go_simp); (try with_reducible rfl))
        intro wq' hwq
        subst hwq
        (try simp only [Act.put, List.setIfInBounds_toArray, List.set_cons_zero, List.set_cons_succ])
        refine wpAnyK_take (fun _ => rfl) (fun _ _ _ h k => h.trans k) (fun _ _ h k => k ▸ h) (i := 3) (oi := { dst := some 39, op := _, type := _, pos := _, after := _, guard := _ }) (v := ?_) rfl (by kernel_rfl) (by kernel_rfl) (by kernel_rfl) (fun _ _ _ h => h) (Or.inl (Or.inl ⟨by rfl, ?_⟩)) hS ?_
        rotate_left
        focus ((intro w hSw; (try dsimp only at hSw); have q0 := (hSw.1.blk HQ.out (by decide) (by decide) (by decide)).cell 0 _ rfl; have q1 := (hSw.1.blk HQ.out (by decide) (by decide) (by decide)).cell 1 _ rfl; have q2 := (hSw.1.blk HQ.out (by decide) (by decide) (by decide)).cell 2 _ rfl; go_simp); (try with_reducible rfl))
        intro wq' hwq
        subst hwq
        (try simp only [Act.put, List.setIfInBounds_toArray, List.set_cons_zero, List.set_cons_succ])
        refine wpAnyK_take (fun _ => rfl) (fun _ _ _ h k => h.trans k) (fun _ _ h k => k ▸ h) (i := 4) (oi := { dst := some 40, op := _, type := _, pos := _, after := _, guard := _ }) (v := ?_) rfl (by kernel_rfl) (by kernel_rfl) (by kernel_rfl) (fun _ _ _ h => h) (Or.inl (Or.inl ⟨by rfl, ?_⟩)) hS ?_
        rotate_left
        focus ((intro w hSw; (try dsimp only at hSw); skip; go_simp); (try with_reducible rfl))
        intro wq' hwq
        subst hwq
        (try simp only [Act.put, List.setIfInBounds_toArray, List.set_cons_zero, List.set_cons_succ])
        refine wpAnyK_take (fun _ => rfl) (fun _ _ _ h k => h.trans k) (fun _ _ h k => k ▸ h) (i := 5) (oi := { dst := some 41, op := _, type := _, pos := _, after := _, guard := _ }) (v := ?_) rfl (by kernel_rfl) (by kernel_rfl) (by kernel_rfl) (fun _ _ _ h => h) (Or.inl (Or.inl ⟨by rfl, ?_⟩)) hS ?_
        rotate_left
        focus ((intro w hSw; (try dsimp only at hSw); skip; go_simp); (try with_reducible rfl))
        intro wq' hwq
        subst hwq
        (try simp only [Act.put, List.setIfInBounds_toArray, List.set_cons_zero, List.set_cons_succ])
        refine wpAnyK_take (fun _ => rfl) (fun _ _ _ h k => h.trans k) (fun _ _ h k => k ▸ h) (i := 6) (oi := { dst := some 42, op := _, type := _, pos := _, after := _, guard := _ }) (v := ?_) rfl (by kernel_rfl) (by kernel_rfl) (by kernel_rfl) (fun _ _ _ h => h) (Or.inl (Or.inl ⟨by rfl, ?_⟩)) hS ?_
        rotate_left
        focus ((intro w hSw; (try dsimp only at hSw); have q0 := (hSw.1.blk HQ.out (by decide) (by decide) (by decide)).cell 0 _ rfl; have q1 := (hSw.1.blk HQ.out (by decide) (by decide) (by decide)).cell 1 _ rfl; have q2 := (hSw.1.blk HQ.out (by decide) (by decide) (by decide)).cell 2 _ rfl; go_simp); (try with_reducible rfl))
        intro wq' hwq
        subst hwq
        (try simp only [Act.put, List.setIfInBounds_toArray, List.set_cons_zero, List.set_cons_succ])
        refine wpAnyK_take (fun _ => rfl) (fun _ _ _ h k => h.trans k) (fun _ _ h k => k ▸ h) (i := 7) (oi := { dst := some 43, op := _, type := _, pos := _, after := _, guard := _ }) (v := ?_) rfl (by kernel_rfl) (by kernel_rfl) (by kernel_rfl) (fun _ _ _ h => h) (Or.inl (Or.inl ⟨by rfl, ?_⟩)) hS ?_
        rotate_left
        focus ((intro w hSw; (try dsimp only at hSw); skip; go_simp); (try with_reducible rfl))
        intro wq' hwq
        subst hwq
        (try simp only [Act.put, List.setIfInBounds_toArray, List.set_cons_zero, List.set_cons_succ])
        refine wpAnyK_take (fun _ => rfl) (fun _ _ _ h k => h.trans k) (fun _ _ h k => k ▸ h) (i := 8) (oi := { dst := some 44, op := _, type := _, pos := _, after := _, guard := _ }) (v := ?_) rfl (by kernel_rfl) (by kernel_rfl) (by kernel_rfl) (fun _ _ _ h => h) (Or.inl (Or.inl ⟨by rfl, ?_⟩)) hS ?_
        rotate_left
        focus ((intro w hSw; (try dsimp only at hSw); have q0 := (hSw.1.blk HQ.out (by decide) (by decide) (by decide)).cell 0 _ rfl; have q1 := (hSw.1.blk HQ.out (by decide) (by decide) (by decide)).cell 1 _ rfl; have q2 := (hSw.1.blk HQ.out (by decide) (by decide) (by decide)).cell 2 _ rfl; go_simp); (try with_reducible rfl))
        intro wq' hwq
        subst hwq
        (try simp only [Act.put, List.setIfInBounds_toArray, List.set_cons_zero, List.set_cons_succ])
        refine wpAnyK_take (fun _ => rfl) (fun _ _ _ h k => h.trans k) (fun _ _ h k => k ▸ h) (i := 9) (oi := { dst := some 45, op := _, type := _, pos := _, after := _, guard := _ }) (v := ?_) rfl (by kernel_rfl) (by kernel_rfl) (by kernel_rfl) (fun _ _ _ h => h) (Or.inl (Or.inl ⟨by rfl, ?_⟩)) hS ?_
        rotate_left
        focus ((intro w hSw; (try dsimp only at hSw); skip; go_simp); (try with_reducible rfl))
        intro wq' hwq
        subst hwq
        (try simp only [Act.put, List.setIfInBounds_toArray, List.set_cons_zero, List.set_cons_succ])
        refine wpAnyK_take (fun _ => rfl) (fun _ _ _ h k => h.trans k) (fun _ _ h k => k ▸ h) (i := 10) (oi := { dst := some 46, op := _, type := _, pos := _, after := _, guard := _ }) (v := .int .i64 ((offG area g2 + k : Nat) : Int)) rfl (by kernel_rfl) (by kernel_rfl) (by kernel_rfl) (fun _ _ _ h => h) (Or.inr ⟨by rfl, 40, #[lptr q, .int .u32 g2, .int .i64 (k : Int)], fun W hW => ⟨?_, HBLK.out W hW⟩⟩) hS ?_
        · first | rfl | (go_simp; done)
        intro wq' hwq
        subst hwq
        (try simp only [Act.put, List.setIfInBounds_toArray, List.set_cons_zero, List.set_cons_succ])
        refine wpAnyK_all (rs := [11]) (by kernel_rfl) (by simp) (fun i hi => ?_)
        simp only [List.mem_cons, List.not_mem_nil, or_false] at hi
        subst hi
        refine stepK (o := { dst := some 47, op := _, type := _, pos := _, after := _, guard := _ }) rfl (fun K hK => ?_)
        have hmk := M128.out wd
        go_simp
        obtain ⟨gm, hgm⟩ : ∃ x, wd.heap.size = x := ⟨_, rfl⟩
        obtain ⟨we, hwe⟩ : ∃ x, wd.alloc (.cells (madeCells #[.int .u8 0] 128) 5) = x := ⟨_, rfl⟩
        have lwe : Later wd we := hwe ▸ Later.new _ _
        have hbz : Has we (some ⟨gm, 0, none⟩) (ints .u8 (List.replicate 128 0)) := by
          have hb : Blk we gm (ints .u8 (List.replicate 128 0)).toArray 5 := by rw [← MC.out, ← hwe]; exact Blk.new wd _ _ gm hgm.symm
          exact blk_hasL hb
        have HBZ := Lib.hid hbz
        try rw [hgm]
        rw [hwe]
        replace hS : KG gs gn W9 we ∧ Below base W9 we := ⟨hS.1.trans (KG.later lwe), hS.2.trans (Below.mono lwe.below (Nat.le_trans HBASE.out lwd.size))⟩
        have lwf : Later W9 we := lwd.trans lwe
        refine hK _ _ hS ?_
        clear hK hwe hgm hbz hmk lwe lwd
        intro wq' hwq
        subst hwq
        (try simp only [Act.put, List.setIfInBounds_toArray, List.set_cons_zero, List.set_cons_succ])
        refine wpAnyK_all (rs := [12]) (by kernel_rfl) (by simp) (fun i hi => ?_)
        simp only [List.mem_cons, List.not_mem_nil, or_false] at hi
        subst hi
        refine stepK (o := { dst := some 48, op := _, type := _, pos := _, after := _, guard := _ }) rfl (fun K hK => ?_)
        go_simp
        refine (HWR.out we gm lwf HBZ.out).mono ?_
        rintro e w7 ⟨rfl, hda7, hkg7, hbl7⟩
        replace hS : KG gs gn W9 w7 ∧ Below base W9 w7 := ⟨hS.1.trans hkg7, hS.2.trans hbl7⟩
        have HDA7 := Lib.hid hda7
        have HS7 := Lib.hid hS
        refine hK _ _ hS ?_
        clear hK hda7 hkg7 hbl7
        intro wq' hwq
        subst hwq
        (try simp only [Act.put, List.setIfInBounds_toArray, List.set_cons_zero, List.set_cons_succ])
        refine wpAnyK_done (by kernel_rfl) ?_ _
        clear hS
        have hfin := HNEXT.out w7 HDA7.out HS7.out.1 HS7.out.2
        have HFIN := Lib.hid hfin
        clear hfin HWR HBLK HNEXT HQ HBZ lwf
        go_wp2_with fail
        go_roundw
        case rel => exact ⟨k + 1, by go_num, hlt, HFIN.out⟩
        case measure => simp [intOf]; omega
      · obtain rfl : area = k := by omega
        have hd1 : decide ((area : Int) < (area : Int)) = false := by rw [decide_eq_false_iff_not]; omega
        have hlay := HLAY.out
        have HFL := Lib.hid (layT_flush hlay hB (by omega) hbq)
        obtain ⟨⟨csx, cnx, Ax, cfx, hdx, hqx, _⟩, _⟩ := hlay
        have k0 := hqx.cell 0 _ rfl
        obtain ⟨dz, hdz⟩ : ∃ x, (zeroT (offG area g2) d area).flT = x := ⟨_, rfl⟩
        rw [hdz] at HFL
        have HDZ := Lib.hid hdz
        clear hdx hqx HLAY hdz
        go_wp2_with fail
        refine HFL.out.mono ?_
        rintro e w2 ⟨rfl, hlay⟩
        have hsum : sumN L ≤ area := by
          have hz := HZ.out
          unfold fitsE at hz
          split at hz
          · split at hz
            · cases hz
            · omega
          · cases hz
        have HSUM := Lib.hid hsum
        have HLL := Lib.hid (show ss.length = L.length from by rw [← HL.out, List.length_map])
        have HLK := Lib.hid (show ∀ k (h : k < ss.length) (h2 : k < L.length), ss[k].l = L[k] from fun k h h2 => by have h := HL.out; subst h; simp)
        have HLAY := Lib.hid (show LT base p gs gn B q area g2 (sumN (L.take 0)) (f + area + sumN (L.take 0)) (wn + area + sumN (L.take 0)) (laysT g2 (offG area g2) 0 (L.take 0) dz) w w2 from by
          rw [List.take_zero]
          exact hlay)
        have HJ0 := Lib.hid (show ∃ k : Nat, Value.int .i64 0 = .int .i64 k ∧ k ≤ ss.length ∧ LT base p gs gn B q area g2 (sumN (L.take k)) (f + area + sumN (L.take k)) (wn + area + sumN (L.take k)) (laysT g2 (offG area g2) 0 (L.take k) dz) w w2 from ⟨0, rfl, Nat.zero_le _, HLAY.out⟩)
        clear hlay HFL hsum HLAY k0
        go_wp2_with fail
        go_loopw [57] (fun iv wr => ∃ k : Nat, iv = .int .i64 k ∧ k ≤ ss.length ∧ LT base p gs gn B q area g2 (sumN (L.take k)) (f + area + sumN (L.take k)) (wn + area + sumN (L.take k)) (laysT g2 (offG area g2) 0 (L.take k) dz) w wr) (fun iv _ => ss.length - (intOf iv).toNat)
        case atStart => exact HJ0.out
        case round =>
          obtain ⟨k, rfl, hk, hlay⟩ := hrel
          have HLAY := Lib.hid hlay
          clear HJ0 hlay
          by_cases hlt : k < ss.length
          · have hkz : (k : Int) < (ss.length : Int) := by omega
            have hkl : k < L.length := by rw [← HLL.out]; exact hlt
            obtain ⟨d1, hd1q⟩ : ∃ x, laysT g2 (offG area g2) 0 (L.take k) dz = x := ⟨_, rfl⟩
            obtain ⟨⟨cs1, cn1, A1, cf1, hda, hqb, hkll, hbel⟩, hdo⟩ := HLAY.out
            rw [hd1q] at hda hdo
            obtain ⟨hTab, hEl⟩ := HST.out wr hkll hbel
            obtain ⟨b, off, hA, _, hc⟩ := hTab.at_ (k := k) (by rw [List.length_map]; exact hlt)
            subst hA
            have hv : (ss.map SlB.v)[k]'(by rw [List.length_map]; exact hlt) = .slice ss[k].a L[k].length ss[k].c := by
              rw [List.getElem_map, ← HLK.out k hlt hkl]; rfl
            rw [hv] at hc
            have hel := hEl _ (List.getElem_mem hlt)
            obtain ⟨h990, h256, hnilk⟩ := HSS.out _ (List.getElem_mem hlt)
            rw [HLK.out k hlt hkl] at hel h990 h256
            have hst := sumN_take hkl
            have hle : sumN (L.take (k + 1)) ≤ sumN L := by
              conv => rhs; rw [← List.take_append_drop (k + 1) L]
              unfold sumN
              rw [List.map_append, List.sum_append]
              omega
            have HLY := Lib.hid (logLay_t base p gs gn B cs1 cn1 A1 cf1 d1 q area g2 (sumN (L.take k)) ss[k].a L[k].length ss[k].c L[k] wr (f + area + sumN (L.take k)) (wn + area + sumN (L.take k)) hda hB hqb HF.out (by have := HG2.out; omega) hdo (by have := HSUM.out; omega) (by have := HSUM.out; omega) hbq rfl hel hnilk h990 h256 (by have := HSUM.out; omega))
            have HNX := Lib.hid (fun (W : World) (hp : LayT base p gs gn B q area g2 (sumN (L.take k) + blkN L[k].length) (layT g2 (offG area g2) (sumN (L.take k)) L[k] d1 (blkN L[k].length)) wr W) => show LT base p gs gn B q area g2 (sumN (L.take (k + 1))) (f + area + sumN (L.take (k + 1))) (wn + area + sumN (L.take (k + 1))) (laysT g2 (offG area g2) 0 (L.take (k + 1)) dz) w W from by
              obtain ⟨cs2, cn2, A2, cf2, h1, h2, h5, h6⟩ := hp
              have e : laysT g2 (offG area g2) 0 (L.take (k + 1)) dz = layT g2 (offG area g2) (sumN (L.take k)) L[k] d1 (blkN L[k].length) := by
                rw [List.take_succ_eq_append_getElem hkl, laysT_snoc, hd1q, Nat.zero_add]
              rw [e]
              have hb := (layT_dw (gen := g2) (used := sumN (L.take k)) (r := L[k]) hdo (offG area g2) (by have := HSUM.out; have := offG_le (area := area) (gen := g2) (n := B) (by have := HF.out.2.2; omega); omega))
              exact ⟨⟨cs2, cn2, A2, cf2, h1, by rw [hst]; exact h2, hkll.trans h5, hbel.trans h6⟩, hb.more (by rw [hst]; omega) (by rw [hst]; omega)⟩)
            clear hda hqb hdo hkll hbel hTab hEl hv hel h990 h256 hnilk hst hle HLAY
            go_wp2_with fail
            refine HLY.out.mono ?_
            rintro e w4 ⟨rfl, hp⟩
            have HFIN := Lib.hid (HNX.out w4 hp)
            clear hp HNX HLY hc
            go_wp2_with fail
            go_roundw
            case rel => exact ⟨k + 1, by go_num, hlt, HFIN.out⟩
            case measure => simp [intOf]; omega
          · have hke : k = ss.length := by omega
            have hT : L.take k = L := List.take_of_length_le (by have := HLL.out; omega)
            have hkz : ¬ (k : Int) < (ss.length : Int) := by omega
            have hlay := HLAY.out
            rw [hT] at hlay
            have hsl := HSUM.out
            have hoff2 : g2 % 2 < B := by have := HF.out.1; have := HF.out.2.2; omega
            have HFL := Lib.hid (layT_flush hlay hB (by omega) hbq)
            obtain ⟨⟨csx, cnx, Ax, cfx, hdx, hqx, _⟩, _⟩ := hlay
            have k0 := hqx.cell 0 _ rfl
            obtain ⟨dl, hdl⟩ : ∃ x, (laysT g2 (offG area g2) 0 L dz).flT = x := ⟨_, rfl⟩
            rw [hdl] at HFL
            have HDL := Lib.hid hdl
            clear hdx hqx HLAY hdl hke hT
            go_wp2_with fail
            refine HFL.out.mono ?_
            rintro e w5 ⟨rfl, hlay5⟩
            have HWS := Lib.hid (layT_slot hlay5 hB (by omega) (by omega) hbq (by have := HG2.out; omega) (g2 % 2) hoff2)
            obtain ⟨⟨csy, cny, Ay, cfy, hdy, hqy, _⟩, _⟩ := hlay5
            have k2 := hqy.cell 2 _ rfl
            have h1 : (g2 : Int).tmod 2 = ((g2 % 2 : Nat) : Int) := by rw [Int.tmod_eq_emod_of_nonneg (by omega)]; omega
            obtain ⟨m2, hm2⟩ : ∃ x, g2 % 2 = x := ⟨_, rfl⟩
            rw [hm2] at h1 HWS
            have HM2 := Lib.hid hm2
            have h2 : IntKind.u32.wrap (m2 : Int) = (m2 : Int) := by rw [IntKind.wrap_u32]; omega
            have h3 : IntKind.i64.wrap (m2 : Int) = (m2 : Int) := IntWalk.i64_in _ ⟨by omega, by omega⟩
            clear hdy hqy HFL k0 hm2 hoff2
            go_wp2_with fail
            refine HWS.out.mono ?_
            rintro e w6 ⟨rfl, hlay6⟩
            have HFL2 := Lib.hid (layT_flush hlay6 hB (by omega) hbq)
            obtain ⟨⟨csz, cnz, Az, cfz, hdz, hqz, _⟩, _⟩ := hlay6
            have k0 := hqz.cell 0 _ rfl
            clear hdz hqz HWS k2 h1 h2 h3
            go_wp2_with fail
            refine HFL2.out.mono ?_
            rintro e w7 ⟨rfl, hlay7⟩
            have HLZ := Lib.hid hlay7
            clear hlay7 HFL2 k0
            go_wp2_with fail
            go_ret
            refine .inr ⟨HZ.out, rfl, ?_⟩
            have e : anewT (gen + 1) area L d = ((dl.wrT m2 (tagB g2 4294967295 [])).flT) := by
              unfold anewT
              rw [HG2.out, HDZ.out, HDL.out, HM2.out]
            rw [e, HG2.out]
            exact ⟨HLZ.out.1, HLZ.out.2.more (by omega) (by omega)⟩
  · obtain ⟨b, o, rfl, hc⟩ := hv
    have heq := HEQ.out w1 (.pointer (some ⟨b, o, none⟩))
    have HV := Lib.hid (show WrapsE w1 (.iface 86 (.pointer (some ⟨b, o, none⟩))) (fitsE area L) from ⟨b, o, rfl, hc⟩)
    have HZ := Lib.hid hz
    have HL1 := Lib.hid l1
    clear hc hz l1
    go_wp2_with fail
    go_ret
    exact .inl ⟨HZ.out, ⟨_, rfl, HV.out⟩, HL1.out⟩
end Go.Proofs.YtfplppldojlanaaDoor

/- Package log on a device that may have stopped: more, Append, Anew, Open. (tools/gen_logy.py) -/

namespace Go.Proofs.YtfplppldojlanaaDoor
open Go.RowKit
set_option linter.unusedVariables false

theorem LT.ltLater {base p gs gn B q area gen used f wn : Nat} {δ : D} {w wr w' : World} (h : LT base p gs gn B q area gen used f wn δ w wr) (l : Later wr w') (hbq : base ≤ q) : LT base p gs gn B q area gen used f wn δ w w' := by
  obtain ⟨⟨cs, cn, A, cf, h1, h2, h5, h6⟩, h3⟩ := h
  exact ⟨⟨cs, cn, A, cf, h1.later l, h2.later l, h5.trans (KL.later l), h6.trans (Below.mono l.below (Nat.le_trans hbq (Nat.le_of_lt h2.lt)))⟩, h3⟩
theorem LT.ltFrom {base p gs gn B q area gen used f wn : Nat} {δ : D} {w0 w wr : World} (h : LT base p gs gn B q area gen used f wn δ w wr) (l : Later w0 w) (hb : base ≤ w0.heap.size) : LT base p gs gn B q area gen used f wn δ w0 wr := by
  obtain ⟨⟨cs, cn, A, cf, h1, h2, h5, h6⟩, h3⟩ := h
  exact ⟨⟨cs, cn, A, cf, h1, h2, (KL.later l).trans h5, (Below.mono l.below hb).trans h6⟩, h3⟩
def MoreT (base p gs gn B q area gen used f wn : Nat) (δ : D) (r : List Nat) (w0 w : World) (e : Ending) (w' : World) : Prop :=
  (fitsE ((area : Int) - (used : Int)) [r] ≠ 0 ∧ (∃ v, e = .returned v ∧ WrapsE w' v (fitsE ((area : Int) - (used : Int)) [r])) ∧ Later w w') ∨
  (fitsE ((area : Int) - (used : Int)) [r] = 0 ∧ e = .returned .nilIface ∧ LT base p gs gn B q area gen (used + blkN r.length) (f + blkN r.length) (wn + blkN r.length) (layT gen (offG area gen) used r δ (blkN r.length)).flT w0 w')
def AppT (base p gs gn B q area gen used f wn : Nat) (δ : D) (r : List Nat) (w0 w : World) (e : Ending) (w' : World) : Prop :=
  e = .returned (.int .i64 (fitsE ((area : Int) - (used : Int)) [r])) ∧
  ((fitsE ((area : Int) - (used : Int)) [r] ≠ 0 ∧ LT base p gs gn B q area gen used f wn δ w0 w') ∨
   (fitsE ((area : Int) - (used : Int)) [r] = 0 ∧ LT base p gs gn B q area gen (used + blkN r.length) (f + blkN r.length) (wn + blkN r.length) (layT gen (offG area gen) used r δ (blkN r.length)).flT w0 w'))
def AnwT (base p gs gn B q area gen f wn : Nat) (d : D) (L : List (List Nat)) (w : World) (e : Ending) (w' : World) : Prop :=
  e = .returned (.int .i64 (fitsE area L)) ∧
  ((fitsE area L ≠ 0 ∧ Later w w') ∨ (fitsE area L = 0 ∧ LT base p gs gn B q area (gen + 1) (sumN L) (f + area + sumN L + 1) (wn + area + sumN L + 1) (anewT (gen + 1) area L d) w w'))
def OpenT (base p gs gn B area gen f wn : Nat) (d : D) (recs : List (List Nat)) (w : World) (e : Ending) (w' : World) : Prop :=
  ∃ (q : Nat) (T : Option Addr) (c : Nat) (ss : List SlB), e = .returned (.tuple #[lptr q, .slice T ss.length c, .int .i64 0]) ∧ ss.map (·.l) = recs ∧ TB w' w.heap.size T ss.length c ss ∧ w.heap.size ≤ q ∧
    LT base p gs gn B q area (gen + 1) (sumN recs) (f + area + sumN recs + 1) (wn + area + sumN recs + 1) (anewT (gen + 1) area recs d) w w'
set_option maxRecDepth 100000 in
set_option maxHeartbeats 2000000 in
theorem logMore_t (base p gs gn B q area gen used f wn : Nat) (δ : D) (A2 : Option Addr) (c : Nat) (r : List Nat) (w0 w : World) (h : LT base p gs gn B q area gen used f wn δ w0 w) (hB : B ≤ 4000) (hf : FitsD B area) (hg : gen < 4294967296) (hfl : f ≤ 80000) (hwn : wn ≤ 80000) (hbq : base ≤ q) (hu : used ≤ area)
    (hr : Has w A2 (ints .u8 r)) (hnil : A2 = none → c = 0) (h990 : r.length ≤ 990) (h256 : ∀ x ∈ r, x < 256) :
    Calls Tryd.prog 27 #[lptr q, .slice A2 r.length c] w (MoreT base p gs gn B q area gen used f wn δ r w0 w) := by
  have harea : area ≤ 1000 := by have := hf.2.1; omega
  have hus : used ≤ area := hu
  have HLAY := Lib.hid h
  obtain ⟨⟨cs, cn, A, cf, hda, hqb, hkl, hbel⟩, hdo⟩ := h
  have HRM := Lib.hid (logRoom_any q p area gen used w hqb (by omega) (by omega))
  have HR := Lib.hid hr
  have HF := Lib.hid hf
  have H256 := Lib.hid h256
  have hif : Tryd.prog.isIface 57 = true := by kernel_rfl
  have HEQ := Lib.hid (fun (w : World) (v : Value) => run_eql_iface_nil (P := Tryd.prog) (w := w) 57 hif 86 v)
  clear hda hqb hdo hkl hbel hr hf h256 hif
  go_enter Tryd.func27, Tryd.ntmps27
  go_wp2_with fail
  refine HRM.out.mono ?_
  rintro e w1 ⟨rfl, l1⟩
  obtain ⟨gl, hgl⟩ : ∃ x, w1.heap.size = x := ⟨_, rfl⟩
  obtain ⟨w2, hw2⟩ : ∃ x, w1.alloc (.cells #[.slice A2 r.length c] 24) = x := ⟨_, rfl⟩
  have l2 : Later w1 w2 := hw2 ▸ Later.new _ _
  have hbl : Blk w2 gl [Value.slice A2 r.length c].toArray 24 := hw2 ▸ Blk.new w1 _ _ gl hgl.symm
  obtain ⟨rm, hrm⟩ : ∃ x, (area : Int) - (used : Int) = x := ⟨_, rfl⟩
  have HFT := Lib.hid (logFits_any rm (some ⟨gl, 0, none⟩) 1 1 [⟨A2, c, r⟩] w2 rfl (by simp) (blk_hasL hbl) (fun s hs => by rw [List.mem_singleton] at hs; subst hs; show r.length ≤ _; omega))
  have HL2 := Lib.hid (l1.trans l2)
  have HW2 := Lib.hid hw2
  have HGL := Lib.hid hgl
  have HRMM := Lib.hid hrm
  rw [hrm]
  clear l1 l2 hbl hw2 hgl hrm HRM
  go_wp2_with fail
  try rw [HGL.out]
  rw [HW2.out]
  refine HFT.out.mono ?_
  rintro e w3 ⟨⟨hz, rfl⟩ | ⟨hz, v, rfl, hv⟩, l3⟩
  · have hz0 : fitsE rm [r] = 0 := hz
    have hroom : used + blkN r.length ≤ area := by
      have h1 := HRMM.out
      unfold fitsE at hz0
      split at hz0
      · split at hz0
        · cases hz0
        · have : sumN [r] = blkN r.length := by simp [sumN]
          omega
      · cases hz0
    have HL3 := Lib.hid (HL2.out.trans l3)
    have HLAY3 := Lib.hid (HLAY.out.ltLater HL3.out hbq)
    obtain ⟨⟨cs3, cn3, A3, cf3, hda, hqb, hkl, hbel⟩, hdo⟩ := HLAY3.out
    have HLY := Lib.hid (logLay_t base p gs gn B cs3 cn3 A3 cf3 δ q area gen used A2 r.length c r w3 f wn hda hB hqb HF.out hg hdo (by omega) (by omega) hbq rfl (HR.out.later HL3.out) hnil h990 H256.out hroom)
    have HNX := Lib.hid (fun (W : World) (hp : LayT base p gs gn B q area gen (used + blkN r.length) (layT gen (offG area gen) used r δ (blkN r.length)) w3 W) => show LT base p gs gn B q area gen (used + blkN r.length) (f + blkN r.length) (wn + blkN r.length) (layT gen (offG area gen) used r δ (blkN r.length)) w0 W from by
      obtain ⟨cs4, cn4, A4, cf4, h1, h2, h5, h6⟩ := hp
      exact ⟨⟨cs4, cn4, A4, cf4, h1, h2, hkl.trans h5, hbel.trans h6⟩, layT_dw hdo (offG area gen) (by have := offG_le (area := area) (gen := gen) (n := B) (by have := HF.out.2.2; omega); omega)⟩)
    have HZ := Lib.hid (show fitsE ((area : Int) - (used : Int)) [r] = 0 from by rw [HRMM.out]; exact hz0)
    clear hz hz0 l3 hda hqb hdo hkl hbel HFT HLAY HLAY3
    go_wp2_with fail
    refine HLY.out.mono ?_
    rintro e w4 ⟨rfl, hp⟩
    have hlay4 := HNX.out w4 hp
    have hb10 : blkN r.length ≤ 10 := by unfold blkN; omega
    have HFL := Lib.hid (layT_flush hlay4 hB (by omega) hbq)
    obtain ⟨⟨csx, cnx, Ax, cfx, hdx, hqx, _⟩, _⟩ := hlay4
    have k0 := hqx.cell 0 _ rfl
    clear hp hdx hqx HLY HNX
    go_wp2_with fail
    refine HFL.out.mono ?_
    rintro e w5 ⟨rfl, hlay5⟩
    have HLZ := Lib.hid hlay5
    clear hlay5 HFL k0
    go_wp2_with fail
    go_ret
    exact .inr ⟨HZ.out, rfl, HLZ.out⟩
  · obtain ⟨b, o, rfl, hc⟩ := hv
    have heq := HEQ.out w3 (.pointer (some ⟨b, o, none⟩))
    have HV := Lib.hid (show WrapsE w3 (.iface 86 (.pointer (some ⟨b, o, none⟩))) (fitsE ((area : Int) - (used : Int)) [r]) from by rw [HRMM.out]; exact ⟨b, o, rfl, hc⟩)
    have HZ := Lib.hid (show fitsE ((area : Int) - (used : Int)) [r] ≠ 0 from by rw [HRMM.out]; exact hz)
    have HL3 := Lib.hid (HL2.out.trans l3)
    clear hc hz l3 HFT
    go_wp2_with fail
    go_ret
    exact .inl ⟨HZ.out, ⟨_, rfl, HV.out⟩, HL3.out⟩
set_option maxRecDepth 100000 in
set_option maxHeartbeats 1000000 in
theorem logAppend_t (base p gs gn B q area gen used f wn : Nat) (δ : D) (A2 : Option Addr) (c : Nat) (r : List Nat) (a : Addr) (w0 w : World) (h : LT base p gs gn B q area gen used f wn δ w0 w) (hB : B ≤ 4000) (hf : FitsD B area) (hg : gen < 4294967296) (hfl : f ≤ 80000) (hwn : wn ≤ 80000) (hbq : base ≤ q) (hu : used ≤ area)
    (hr : Has w A2 (ints .u8 r)) (hnil : A2 = none → c = 0) (h990 : r.length ≤ 990) (h256 : ∀ x ∈ r, x < 256) (hs : S21B base w0 a) :
    Calls Tryd.prog 16 #[lptr q, .slice A2 r.length c] w (AppT base p gs gn B q area gen used f wn δ r w0 w) := by
  have HM := Lib.hid (logMore_t base p gs gn B q area gen used f wn δ A2 c r w0 w h hB hf hg hfl hwn hbq hu hr hnil h990 h256)
  have HLAY := Lib.hid h
  have HS := Lib.hid hs
  clear h hr h256 hs hf
  go_enter Tryd.func16, Tryd.ntmps16
  go_wp2_with fail
  refine HM.out.mono ?_
  rintro e w1 (⟨hz, ⟨v, rfl, hv⟩, l1⟩ | ⟨hz, rfl, hlay⟩)
  · have HL := Lib.hid (HLAY.out.ltLater l1 hbq)
    obtain ⟨⟨_, _, _, _, _, _, _, hbel⟩, _⟩ := HL.out
    have HT := Lib.hid (tell_some v _ w1 (HS.out.below hbel).s.err hv)
    have HZ := Lib.hid hz
    clear hbel hv hz l1 HM
    go_wp2_with fail
    refine HT.out.mono ?_
    rintro e w2 ⟨rfl, l2⟩
    have HL2 := Lib.hid (HL.out.ltLater l2 hbq)
    clear l2 HT
    go_wp2_with fail
    go_ret
    exact ⟨rfl, .inl ⟨HZ.out, HL2.out⟩⟩
  · have HZ := Lib.hid hz
    have HL := Lib.hid hlay
    have HT := Lib.hid (tell_nil w1)
    clear hz hlay HM
    go_wp2_with fail
    refine HT.out.mono ?_
    rintro e w2 ⟨rfl, rfl⟩
    clear HT
    go_wp2_with fail
    go_ret
    exact ⟨by rw [HZ.out]; rfl, .inr ⟨HZ.out, HL.out⟩⟩
set_option maxRecDepth 100000 in
set_option maxHeartbeats 1000000 in
theorem logAnew_tt (base p gs gn B cs cn : Nat) (A : Option Addr) (cf : Nat) (d : D) (q area gen used : Nat) (T : Option Addr) (n c : Nat) (ss : List SlB) (a : Addr) (w : World) (f wn : Nat) (h : DA w base p gs gn B cs cn A cf d) (hB : B ≤ 4000) (hq : LogBk w q p area gen used) (hf : FitsD B area) (hg : gen + 1 ≤ 4294967294) (hd : DW B f wn d) (hfl : f ≤ 20000) (hwn : wn ≤ 20000) (hbq : base ≤ q)
    (hn : n = ss.length) (hl : ss.length ≤ 1000) (hstab : ∀ W, KL gs gn q w W → Below base w W → Has W T (ss.map SlB.v) ∧ ∀ s ∈ ss, Has W s.a (ints .u8 s.l)) (hs : ∀ s ∈ ss, s.l.length ≤ 990 ∧ (∀ x ∈ s.l, x < 256) ∧ (s.a = none → s.c = 0)) (hse : S21B base w a) :
    Calls Tryd.prog 15 #[lptr q, .slice T n c] w (AnwT base p gs gn B q area gen f wn d (ss.map (·.l)) w) := by
  subst hn
  have HM := Lib.hid (logAnew_t base p gs gn B cs cn A cf d q area gen used T ss.length c ss w f wn h hB hq hf hg hd hfl hwn hbq rfl hl hstab hs)
  have HS := Lib.hid hse
  clear h hq hf hd hstab hs hse
  go_enter Tryd.func15, Tryd.ntmps15
  go_wp2_with fail
  refine HM.out.mono ?_
  rintro e w1 (⟨hz, ⟨v, rfl, hv⟩, l1⟩ | ⟨hz, rfl, hlay⟩)
  · have HT := Lib.hid (tell_some v _ w1 (HS.out.later l1).s.err hv)
    have HZ := Lib.hid hz
    have HL := Lib.hid l1
    clear hv hz l1 HM
    go_wp2_with fail
    refine HT.out.mono ?_
    rintro e w2 ⟨rfl, l2⟩
    have HL2 := Lib.hid (HL.out.trans l2)
    clear l2 HT
    go_wp2_with fail
    go_ret
    exact ⟨rfl, .inl ⟨HZ.out, HL2.out⟩⟩
  · have HZ := Lib.hid hz
    have HL := Lib.hid hlay
    have HT := Lib.hid (tell_nil w1)
    clear hz hlay HM
    go_wp2_with fail
    refine HT.out.mono ?_
    rintro e w2 ⟨rfl, rfl⟩
    clear HT
    go_wp2_with fail
    go_ret
    exact ⟨by rw [HZ.out]; rfl, .inr ⟨HZ.out, HL.out⟩⟩
set_option maxRecDepth 100000 in
set_option maxHeartbeats 2000000 in
theorem logOpen_t (base p gs gn B cs cn : Nat) (A : Option Addr) (cf : Nat) (d : D) (area gen : Nat) (recs : List (List Nat)) (a : Addr) (w : World) (f wn : Nat) (h : DA w base p gs gn B cs cn A cf d) (hB : B ≤ 4000) (hf : FitsD B area) (b0 b1 : List Nat) (hb0 : d.now[0]? = some b0) (hb1 : d.now[1]? = some b1) (hmax : max (slotG 0 b0) (slotG 1 b1) = gen) (hread : recsL gen (areaG area gen d.now) (area + 1) 0 = recs) (hfit : fitsE area recs = 0) (hrl : recs.length ≤ 1000) (hg1 : 1 ≤ gen) (hg : gen + 1 ≤ 4294967294) (hd : DW B f wn d) (hfl : f ≤ 20000) (hwn : wn ≤ 20000) (hbw : base ≤ w.heap.size)
    (hs : ∀ r ∈ recs, r.length ≤ 990 ∧ ∀ x ∈ r, x < 256) (hse : S21B base w a) :
    Calls Tryd.prog 12 #[dptr p, .int .i64 area] w (OpenT base p gs gn B area gen f wn d recs w) := by
  have harea : area ≤ 1000 := by have := hf.2.1; omega
  have hlts : gs < w.heap.size ∧ gn < w.heap.size := by
    obtain ⟨_, ⟨_, vs, s2, _⟩, ⟨_, ns, n2, _⟩, _⟩ := h
    exact ⟨(s2.lt gs rfl).2, (n2.lt gn rfl).2⟩
  have HFD := Lib.hid (logFind_any base p gs gn B cs cn A cf d area b0 b1 w h hB hb0 (fun _ => hb1) hse.s.torn)
  have HRC := Lib.hid (fun (W : World) (l : Later w W) (q : Nat) (hq : LogBk W q p area gen 0) => logRecords_any base p gs gn B cs cn A cf d q area gen 0 a W (h.later l) hB hq hf (by omega) (hse.s.later l))
  have HAN := Lib.hid (fun (W : World) (l : Later w W) (q : Nat) (hq : LogBk W q p area gen 0) (hwq : w.heap.size ≤ q) (b : Nat) (hb : w.heap.size ≤ b) (T : Option Addr) (c : Nat) (ss : List SlB) (htb : TB W b T ss.length c ss) (hm : ss.map (·.l) = recs) =>
    logAnew_tt base p gs gn B cs cn A cf d q area gen 0 T ss.length c ss a W f wn (h.later l) hB hq hf hg hd hfl hwn (by omega) rfl (by have := congrArg List.length hm; rw [List.length_map] at this; omega)
      (fun W' hk _ => (htb.kl hk hq (by omega) (by omega)).has) (fun s hs' => by
        have h1 := hs s.l (by rw [← hm]; exact List.mem_map_of_mem hs')
        obtain ⟨_, _, _, h2, _⟩ := htb.2.1 s hs'
        exact ⟨h1.1, h1.2, fun h => by rw [h] at h2; cases h2⟩)
      (hse.later l))
  have HF := Lib.hid hf
  have HM := Lib.hid hmax
  have HRD := Lib.hid hread
  have HFIT := Lib.hid hfit
  have HLT := Lib.hid hlts
  clear h hf hd hs hse hb0 hb1 hmax hread hfit hlts
  go_enter Tryd.func12, Tryd.ntmps12
  go_wp2_with fail
  refine HFD.out.mono ?_
  rintro e w1 ⟨⟨hn, _⟩ | ⟨_, hz, _⟩ | ⟨_, hp, q, a', rfl, haa, hq, hqw⟩, l1⟩
  · exact absurd HF.out hn
  · have := HM.out; omega
  · obtain rfl : a' = area := by omega
    have hq : LogBk w1 q p a' gen 0 := by have h := hq; rw [HM.out] at h; exact h
    have HQ := Lib.hid hq
    have HL1 := Lib.hid l1
    have HR := Lib.hid (HRC.out w1 l1 q hq)
    clear hp haa hq l1 HFD HRC
    go_wp2_with fail
    refine HR.out.mono ?_
    rintro e w2 ⟨ss, T, c, rfl, hm, _, htb, l2⟩
    have hm2 : ss.map (·.l) = recs := by rw [hm]; exact HRD.out
    have HMM := Lib.hid hm2
    have HTB := Lib.hid htb
    have HL2 := Lib.hid (HL1.out.trans l2)
    have HQ2 := Lib.hid (HQ.out.later l2)
    have HA := Lib.hid (HAN.out w2 HL2.out q HQ2.out hqw w1.heap.size HL1.out.size T c ss htb hm2)
    clear hm hm2 htb l2 HR HAN
    go_wp2_with fail
    refine HA.out.mono ?_
    rintro e w3 ⟨rfl, hr⟩
    have hr2 := hr
    rw [HMM.out] at hr2
    rcases hr2 with ⟨h1, _⟩ | ⟨_, hlay⟩
    · exact absurd HFIT.out h1
    · have hz : fitsE a' (ss.map (·.l)) = 0 := by rw [HMM.out]; exact HFIT.out
      rw [hz]
      have HLAY := Lib.hid (hlay.ltFrom HL2.out hbw)
      have HT3 := Lib.hid (show TB w3 w.heap.size T ss.length c ss from by
        obtain ⟨⟨_, _, _, _, _, _, hkl, _⟩, _⟩ := hlay
        have ht := HTB.out.kl hkl HQ2.out (by have := HLT.out.1; have := HL1.out.size; omega) (by have := HLT.out.2; have := HL1.out.size; omega)
        exact ⟨own_mono ht.1 HL1.out.size, fun s hs => (ht.2.1 s hs).low HL1.out.size, ht.2.2⟩)
      clear hr hlay hz HA HTB
      go_wp2_with fail
      go_ret3
      exact ⟨q, T, c, ss, rfl, HMM.out, HT3.out, hqw, HLAY.out⟩
end Go.Proofs.YtfplppldojlanaaDoor
