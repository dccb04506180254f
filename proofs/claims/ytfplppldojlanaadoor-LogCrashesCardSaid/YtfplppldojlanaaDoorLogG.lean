/- Package log: lay. (tools/gen_logg.py) -/
import Derived.Test.YtfplppldojlanaaDoorLogF
namespace Go.Proofs.YtfplppldojlanaaDoor
open Go.RowKit
set_option linter.unusedVariables false

def slen : Value → Nat
  | .slice _ n _ => n
  | _ => 0
/-- What is left of a text. -/
def TX (w : World) (A : Option Addr) (c : Nat) (L : List Nat) : Prop := (L = [] ∨ RB w 0 A L) ∧ (A = none → c = 0) ∧ L.length ≤ c ∧ c ≤ 9223372036854775807
theorem TX.later {w w' : World} {A : Option Addr} {c : Nat} {L : List Nat} (h : TX w A c L) (l : Later w w') : TX w' A c L := ⟨h.1.imp id fun h => h.later l, h.2⟩
theorem TX.kl {w w' : World} {A : Option Addr} {c gs gn q : Nat} {L : List Nat} {xs : Array Value} (h : TX w A c L) (l : KL gs gn q w w') (hq : Blk w q xs 61) : TX w' A c L := ⟨h.1.imp id fun h => h.kl l hq, h.2⟩
theorem RB.take {w : World} {b : Nat} {A : Option Addr} {L : List Nat} (h : RB w b A L) (k : Nat) : RB w b A (L.take k) := by
  obtain ⟨g, o, cs, h1, h2, h3, h4⟩ := h
  refine ⟨g, o, cs, h1, h2, h3, fun j u hj => h4 j u ?_⟩
  unfold ints at hj ⊢
  rw [List.map_take, List.getElem?_take] at hj
  split at hj
  · exact hj
  · cases hj
theorem RB.drop {w : World} {b g o : Nat} {L : List Nat} (h : RB w b (some ⟨g, o, none⟩) L) (k : Nat) : RB w b (some ⟨g, o + k, none⟩) (L.drop k) := by
  obtain ⟨g', o', cs, h1, h2, h3, h4⟩ := h
  injection h1 with h1
  injection h1 with h1 h5
  subst h1 h5
  refine ⟨g, o + k, cs, rfl, h2, h3, fun j u hj => ?_⟩
  rw [Nat.add_assoc]
  refine h4 (k + j) u ?_
  unfold ints at hj ⊢
  rw [List.map_drop, List.getElem?_drop] at hj
  exact hj
/-- What lay leaves. -/
def LayP (base p gs gn B q area gen used f wn : Nat) (now : List (List Nat)) (w w' : World) : Prop :=
  ∃ (d' : D) (cs cn : Nat) (A : Option Addr) (cf : Nat), DA w' base p gs gn B cs cn A cf d' ∧ LogBk w' q p area gen used ∧ DOk B f wn d' ∧ d'.now = now ∧ KL gs gn q w w' ∧ Below base w w'

set_option maxRecDepth 100000 in
set_option maxHeartbeats 4000000 in
theorem logLay_any (base p gs gn B cs cn : Nat) (A : Option Addr) (cf : Nat) (d : D) (q area gen used : Nat) (A2 : Option Addr) (n c : Nat) (r : List Nat) (w : World) (f wn : Nat) (h : DA w base p gs gn B cs cn A cf d) (hB : B ≤ 4000) (hq : LogBk w q p area gen used) (hf : FitsD B area) (hg : gen < 4294967296) (hd : DOk B f wn d) (hfl : f ≤ 90000) (hwn : wn ≤ 90000) (hbq : base ≤ q)
    (hn : n = r.length) (hr : Has w A2 (ints .u8 r)) (hnil : A2 = none → c = 0) (hr9 : r.length ≤ 990) (h256 : ∀ x ∈ r, x < 256) (P : List (List Nat)) (z : List Nat) (hP : P.length = used) (hroom : used + blkN r.length ≤ area) (har : areaG area gen d.now = P ++ List.replicate (area - used) z) :
    Calls Tryd.prog 42 #[lptr q, .slice A2 n c] w fun e w' => e = .returned (.tuple #[]) ∧ LayP base p gs gn B q area gen (used + blkN r.length) (f + blkN r.length) (wn + blkN r.length) (putAt d.now (offG area gen) (P ++ (laidR gen used r ++ List.replicate (area - used - blkN r.length) z))) w w' := by
  subst hn
  have hb10 : blkN r.length ≤ 10 := by unfold blkN; omega
  have harea : area ≤ 1000 := by have := hf.2.1; omega
  have hnow : 2 + 2 * area ≤ d.now.length := by rw [h.2.2.1.1]; have := hf.2.2; omega
  have hself : putAt d.now (offG area gen) (P ++ ((laidR gen used r).take 0 ++ List.replicate (area - used - 0) z)) = d.now := by
    rw [List.take_zero, List.nil_append, Nat.sub_zero, ← har]
    exact putAt_self (offG_le hnow)
  have HP := Lib.hid (show Calls Tryd.prog 56 #[.int .u64 ((r.length : Nat) : Int), .int .i64 ((4 : Nat) : Int)] w (fun e w' => ∃ A c, e = .returned (.slice A 4 c) ∧ w'.ownsRow w.heap.size 5 1 (.slice A 4 c) 4 (ints .u8 (topB r.length 4)) ∧ Later w w' ∧ (A = none → c = 0)) from (high_makes r.length 4 (by omega) (by decide) w).mono fun e w' ⟨A, c, h1, h2, h3, h4⟩ => ⟨A, c, by rw [h1, topB_length], by rw [topB_length] at h2; exact h2, Later.of h3, h4⟩)
  have HDA := Lib.hid h
  have HQ := Lib.hid hq
  have HD := Lib.hid hd
  have HR := Lib.hid hr
  have HNIL := Lib.hid hnil
  have H256 := Lib.hid h256
  have HAR := Lib.hid har
  have HSELF := Lib.hid hself
  have HF := Lib.hid hf
  have hw64 : IntKind.u64.wrap ((r.length : Nat) : Int) = ((r.length : Nat) : Int) := by rw [IntKind.wrap_u64]; omega
  clear h hq hd hr hnil h256 har hself hf
  go_enter Tryd.func42, Tryd.ntmps42
  go_wp2_with fail
  refine HP.out.mono ?_
  rintro e w1 ⟨A1, c1, rfl, hown1, l1, hn1⟩
  obtain ⟨gl, hgl⟩ : ∃ x, w1.heap.size = x := ⟨_, rfl⟩
  obtain ⟨w2, hw2⟩ : ∃ x, w1.alloc (.cells #[.slice A1 4 c1, .slice A2 r.length c] 24) = x := ⟨_, rfl⟩
  have l2 : Later w1 w2 := hw2 ▸ Later.new _ _
  have hbl : Blk w2 gl #[.slice A1 4 c1, .slice A2 r.length c] 24 := hw2 ▸ Blk.new w1 _ _ gl hgl.symm
  have HCT := Lib.hid (concat2_any gl 2 A1 A2 4 r.length c1 c (topB r.length 4) r w2 (topB_length _ _).symm rfl (by omega) (by omega) (by omega) (hbl.cell 0 _ rfl) (hbl.cell 1 _ rfl) (Has.own (own_later hown1 l2)) (HR.out.later (l1.trans l2)) hn1 HNIL.out)
  have HL2 := Lib.hid (l1.trans l2)
  have HW2 := Lib.hid hw2
  have HGL := Lib.hid hgl
  clear hown1 l1 hn1 l2 hbl HP hw2 hgl
  go_wp2_with fail
  try rw [HGL.out]
  rw [HW2.out]
  refine HCT.out.mono ?_
  rintro e w3 ⟨A3, c3, rfl, hown3, l3⟩
  have HL3 := Lib.hid (HL2.out.trans l3)
  have hTl : (topB r.length 4 ++ r).length = (recT r).length := rfl
  rw [hTl] at hown3 ⊢
  have hown3 : w3.ownsRow w2.heap.size 5 1 (.slice A3 (recT r).length c3) (recT r).length (ints .u8 (recT r)) := hown3
  obtain ⟨g3, rfl⟩ := own_some hown3 (by rw [recT_len]; omega)
  have HTX := Lib.hid (show TX w3 (some ⟨g3, 0, none⟩) c3 (recT r) from ⟨.inr ((RB.of_own hown3 0).low (Nat.zero_le _)), (fun h => by cases h), own_cap hown3, own_capmax hown3⟩)
  have HI0 := Lib.hid (show ∃ (k : Nat) (tA : Option Addr) (tc : Nat), Value.slice (some ⟨g3, 0, none⟩) (recT r).length c3 = .slice tA ((recT r).drop (110 * k)).length tc ∧ k ≤ blkN r.length ∧ TX w3 tA tc ((recT r).drop (110 * k)) ∧ LayP base p gs gn B q area gen (used + k) (f + k) (wn + k) (putAt d.now (offG area gen) (P ++ ((laidR gen used r).take k ++ List.replicate (area - used - k) z))) w w3 from
    ⟨0, _, _, rfl, Nat.zero_le _, HTX.out, d, cs, cn, A, cf, HDA.out.later HL3.out, HQ.out.later HL3.out, HD.out, HSELF.out.symm, KL.later HL3.out, Below.mono HL3.out.below (Nat.le_trans hbq (Nat.le_of_lt HQ.out.lt))⟩)
  clear hown3 l3 HCT HL2 HTX HDA HQ HD HSELF hTl HL3 HW2 HGL HAR
  go_wp2_with fail
  go_loopw [4] (fun tv wr => ∃ (k : Nat) (tA : Option Addr) (tc : Nat), tv = .slice tA ((recT r).drop (110 * k)).length tc ∧ k ≤ blkN r.length ∧ TX wr tA tc ((recT r).drop (110 * k)) ∧ LayP base p gs gn B q area gen (used + k) (f + k) (wn + k) (putAt d.now (offG area gen) (P ++ ((laidR gen used r).take k ++ List.replicate (area - used - k) z))) w wr) (fun tv _ => slen tv)
  case atStart => exact HI0.out
  case round =>
    obtain ⟨k, tA, tc, rfl, hk, htx, d', cs', cn', A', cf', hda, hqb, hdo, hnw, hkl, hbel⟩ := hrel
    have HTX := Lib.hid htx
    have HDA := Lib.hid hda
    have HQ := Lib.hid hqb
    have HDO := Lib.hid hdo
    have HNW := Lib.hid hnw
    have HKL := Lib.hid hkl
    have HBEL := Lib.hid hbel
    have HMORE := Lib.hid (text_more r k)
    have HNXT := Lib.hid (text_next r k)
    have HDRP := Lib.hid (text_drop r k)
    obtain ⟨L, hL⟩ : ∃ x, (recT r).drop (110 * k) = x := ⟨_, rfl⟩
    rw [hL] at HTX HMORE HNXT HDRP ⊢
    have hLen : L.length ≤ 1000 := by rw [← hL, List.length_drop, recT_len]; omega
    clear HI0 htx hda hqb hdo hnw hkl hbel hL
    by_cases hk2 : k < blkN r.length
    · have hpos : 0 < L.length := HMORE.out.2 hk2
      have hd : decide ((0 : Int) < (L.length : Int)) = true := by rw [decide_eq_true_iff]; omega
      have hd2 : decide (0 < L.length) = true := by rw [decide_eq_true_iff]; omega
      obtain ⟨htx0, _, hLc, hcm⟩ := HTX.out
      have hrb := htx0.resolve_left (fun e => by rw [e] at hpos; simp at hpos)
      obtain ⟨bb, oo, rfl⟩ : ∃ bb oo, tA = some ⟨bb, oo, none⟩ := by obtain ⟨b, o, _, h1, _⟩ := hrb; exact ⟨b, o, h1⟩
      obtain ⟨m, hm⟩ : ∃ m, min L.length 110 = m := ⟨_, rfl⟩
      have hm1 : m ≤ 110 := by omega
      have hm2 : m ≤ L.length := by omega
      have hm3 : 0 < m := by omega
      have HMIN := Lib.hid (show min (L.length : Int) 110 = (m : Int) from by omega)
      have HMIN2 := Lib.hid (show (if (110 : Int) < (L.length : Int) then (110 : Int) else (L.length : Int)) = (m : Int) from by split <;> omega)
      have hmc : (m : Int) ≤ (tc : Int) := by omega
      have hml : (m : Int) ≤ (L.length : Int) := by omega
      have hnx := HNXT.out
      have hdr := HDRP.out
      rw [hm] at hnx hdr
      have HNX := Lib.hid hnx
      have HDR := Lib.hid hdr
      have HRB := Lib.hid hrb
      have HCM := Lib.hid (And.intro hLc hcm)
      have htl : (L.take m).length = m := by rw [List.length_take]; omega
      have HTL := Lib.hid htl
      obtain ⟨u, hu⟩ : ∃ x, used + k = x := ⟨_, rfl⟩
      rw [hu] at HQ
      have hua : u ≤ 1000 := by omega
      have hub : u < area := by omega
      have HU := Lib.hid hu
      have hoff : offG area gen + u < B := by
        have h1 := offG_le (area := area) (gen := gen) (n := B) (by have := HF.out.2.2; omega)
        omega
      clear hu
      have hwu : IntKind.u32.wrap ((u : Nat) : Int) = ((u : Nat) : Int) := by rw [IntKind.wrap_u32]; omega
      have hwi : IntKind.i64.wrap (((u : Nat) : Int) + 1) = ((u : Nat) : Int) + 1 := IntWalk.i64_in _ ⟨by omega, by omega⟩
      obtain ⟨W9, hW9⟩ : ∃ x, x = wr := ⟨_, rfl⟩
      subst hW9
      have HBASE := Lib.hid (show base ≤ W9.heap.size from Nat.le_trans hbq (Nat.le_of_lt HQ.out.lt))
      have HBLK := Lib.hid (fun (W : World) (hW : KG gs gn W9 W ∧ Below base W9 W) => show Calls Tryd.prog 40 #[lptr q, .int .u32 gen, .int .i64 ((u : Nat) : Int)] W (fun e w' => e = .returned (.int .i64 ((offG area gen + u : Nat) : Int)) ∧ W = w') from logBlock_any q p area gen u gen u W (hW.1.blk HQ.out (by decide) (by decide) (by decide)) (by omega) (by omega) hg)
      have h256p : ∀ x ∈ L.take m, x < 256 := by
        intro x hx
        rw [HNX.out] at hx
        have hx2 : x ∈ recT r := List.mem_of_mem_drop (List.mem_of_mem_take hx)
        unfold recT at hx2
        rcases List.mem_append.1 hx2 with h1 | h1
        · exact topB_lt _ _ x h1
        · exact H256.out x h1
      have HWR := Lib.hid (fun (W : World) (lW : Later W9 W) => show Calls Tryd.prog 43 #[lptr q, .int .i64 ((offG area gen + u : Nat) : Int), .int .u32 ((u : Nat) : Int), .slice (some ⟨bb, oo, none⟩) m tc] W (fun e w' => e = .returned (.tuple #[]) ∧ DoneG base p gs gn B (d'.wr (offG area gen + u) (tagB gen u (pieceT (recT r) k))) W w') from by
        rw [← HNX.out]
        exact logWrite_any base p gs gn B cs' cn' A' cf' d' q area gen u (offG area gen + u) u (some ⟨bb, oo, none⟩) m tc (L.take m) W (HDA.out.later lW) hB (HQ.out.later lW) hg (by omega) hoff HDO.out.run HTL.out.symm (by rw [HTL.out]; exact hm1) h256p (((HRB.out.take m).has).later lW) (fun h => by cases h) (by have := HDO.out.fly; omega) ⟨by have := HDO.out.hi; omega, HDO.out.lo⟩ (Nat.le_trans HBASE.out lW.size))
      clear htx0 hLc hcm hrb hnx hdr hm htl HTX h256p
      go_upto_region 2 with fail
      go_cut [5] from 16 to 18 (fun v wx => v = .int .i64 m ∧ W9 = wx)
      case first => as_aux_lemma =>
        by_cases h110 : 110 < L.length
        · have hm' : m = 110 := by have := HMIN.out; omega
          have hdd : decide ((110 : Int) < (L.length : Int)) = true := by rw [decide_eq_true_iff]; omega
          go_wp2_with fail
          all_goals go_meet
          all_goals exact ⟨by rw [hm']; first | rfl | (exfalso; omega), rfl⟩
        · have hm' : L.length = m := by have := HMIN.out; omega
          have HM' := Lib.hid hm'
          have hdd : decide ((110 : Int) < (L.length : Int)) = false := by rw [decide_eq_false_iff_not]; omega
          clear hm'
          go_wp2_with fail
          all_goals go_meet
          all_goals exact ⟨by first | rw [HM'.out] | (exfalso; omega), rfl⟩
      case rest =>
      obtain ⟨rfl, rfl⟩ := hcut
      clear HMIN HMIN2
      go_upto_region 3 with fail
      go_cut [38] from 19 to 38 (fun v wx => (∃ cs cn A cf, DA wx base p gs gn B cs cn A cf (d'.wr (offG area gen + u) (tagB gen u (pieceT (recT r) k)))) ∧ KG gs gn W9 wx ∧ Below base W9 wx)
      case first => as_aux_lemma =>
        refine wp_region_K (S := fun W : World => KG gs gn W9 W ∧ Below base W9 W) (R := fun a b => a = b) (fun _ => rfl) (by kernel_rfl) ?_
        obtain ⟨wd, hwd⟩ : ∃ x, W9.drew = x := ⟨_, rfl⟩
        have lwd : Later W9 wd := hwd ▸ (Later.refl W9).drew
        have hS : KG gs gn W9 wd ∧ Below base W9 wd := ⟨KG.later lwd, Below.mono lwd.below HBASE.out⟩
        rw [hwd]
        clear hwd
        refine wpAnyK_take (fun _ => rfl) (fun _ _ _ h k => h.trans k) (fun _ _ h k => k ▸ h) (i := 0) (oi := { dst := some 19, op := _, type := _, pos := _, after := _, guard := _ }) (v := ?_) rfl (by kernel_rfl) (by kernel_rfl) (by kernel_rfl) (fun _ _ _ h => h) (Or.inl (Or.inl ⟨by rfl, ?_⟩)) hS ?_
        rotate_left
        focus ((intro w hSw; (try dsimp only at hSw); skip; go_simp); (try with_reducible rfl))
        intro wq' hwq
        subst hwq
        (try simp only [Act.put, List.setIfInBounds_toArray, List.set_cons_zero, List.set_cons_succ])
        refine wpAnyK_take (fun _ => rfl) (fun _ _ _ h k => h.trans k) (fun _ _ h k => k ▸ h) (i := 1) (oi := { dst := some 20, op := _, type := _, pos := _, after := _, guard := _ }) (v := ?_) rfl (by kernel_rfl) (by kernel_rfl) (by kernel_rfl) (fun _ _ _ h => h) (Or.inl (Or.inl ⟨by rfl, ?_⟩)) hS ?_
        rotate_left
        focus ((intro w hSw; (try dsimp only at hSw); skip; go_simp); (try with_reducible rfl))
        intro wq' hwq
        subst hwq
        (try simp only [Act.put, List.setIfInBounds_toArray, List.set_cons_zero, List.set_cons_succ])
        refine wpAnyK_take (fun _ => rfl) (fun _ _ _ h k => h.trans k) (fun _ _ h k => k ▸ h) (i := 2) (oi := { dst := some 21, op := _, type := _, pos := _, after := _, guard := _ }) (v := ?_) rfl (by kernel_rfl) (by kernel_rfl) (by kernel_rfl) (fun _ _ _ h => h) (Or.inl (Or.inl ⟨by rfl, ?_⟩)) hS ?_
        rotate_left
        focus ((intro w hSw; (try dsimp only at hSw); skip; go_simp); (try with_reducible rfl))
        intro wq' hwq
        subst hwq
        (try simp only [Act.put, List.setIfInBounds_toArray, List.set_cons_zero, List.set_cons_succ])
        refine wpAnyK_take (fun _ => rfl) (fun _ _ _ h k => h.trans k) (fun _ _ h k => k ▸ h) (i := 3) (oi := { dst := some 22, op := _, type := _, pos := _, after := _, guard := _ }) (v := ?_) rfl (by kernel_rfl) (by kernel_rfl) (by kernel_rfl) (fun _ _ _ h => h) (Or.inl (Or.inl ⟨by rfl, ?_⟩)) hS ?_
        rotate_left
        focus ((intro w hSw; (try dsimp only at hSw); have q1 := (hSw.1.blk HQ.out (by decide) (by decide) (by decide)).cell 1 _ rfl; have q2 := (hSw.1.blk HQ.out (by decide) (by decide) (by decide)).cell 2 _ rfl; have q3 := (hSw.1.blk HQ.out (by decide) (by decide) (by decide)).cell 3 _ rfl; go_simp); (try with_reducible rfl))
        intro wq' hwq
        subst hwq
        (try simp only [Act.put, List.setIfInBounds_toArray, List.set_cons_zero, List.set_cons_succ])
        refine wpAnyK_take (fun _ => rfl) (fun _ _ _ h k => h.trans k) (fun _ _ h k => k ▸ h) (i := 4) (oi := { dst := some 23, op := _, type := _, pos := _, after := _, guard := _ }) (v := ?_) rfl (by kernel_rfl) (by kernel_rfl) (by kernel_rfl) (fun _ _ _ h => h) (Or.inl (Or.inl ⟨by rfl, ?_⟩)) hS ?_
        rotate_left
        focus ((intro w hSw; (try dsimp only at hSw); skip; go_simp); (try with_reducible rfl))
        intro wq' hwq
        subst hwq
        (try simp only [Act.put, List.setIfInBounds_toArray, List.set_cons_zero, List.set_cons_succ])
        refine wpAnyK_take (fun _ => rfl) (fun _ _ _ h k => h.trans k) (fun _ _ h k => k ▸ h) (i := 5) (oi := { dst := some 24, op := _, type := _, pos := _, after := _, guard := _ }) (v := ?_) rfl (by kernel_rfl) (by kernel_rfl) (by kernel_rfl) (fun _ _ _ h => h) (Or.inl (Or.inl ⟨by rfl, ?_⟩)) hS ?_
        rotate_left
        focus ((intro w hSw; (try dsimp only at hSw); have q1 := (hSw.1.blk HQ.out (by decide) (by decide) (by decide)).cell 1 _ rfl; have q2 := (hSw.1.blk HQ.out (by decide) (by decide) (by decide)).cell 2 _ rfl; have q3 := (hSw.1.blk HQ.out (by decide) (by decide) (by decide)).cell 3 _ rfl; go_simp); (try with_reducible rfl))
        intro wq' hwq
        subst hwq
        (try simp only [Act.put, List.setIfInBounds_toArray, List.set_cons_zero, List.set_cons_succ])
        refine wpAnyK_take (fun _ => rfl) (fun _ _ _ h k => h.trans k) (fun _ _ h k => k ▸ h) (i := 6) (oi := { dst := some 25, op := _, type := _, pos := _, after := _, guard := _ }) (v := ?_) rfl (by kernel_rfl) (by kernel_rfl) (by kernel_rfl) (fun _ _ _ h => h) (Or.inl (Or.inl ⟨by rfl, ?_⟩)) hS ?_
        rotate_left
        focus ((intro w hSw; (try dsimp only at hSw); skip; go_simp); (try with_reducible rfl))
        intro wq' hwq
        subst hwq
        (try simp only [Act.put, List.setIfInBounds_toArray, List.set_cons_zero, List.set_cons_succ])
        refine wpAnyK_take (fun _ => rfl) (fun _ _ _ h k => h.trans k) (fun _ _ h k => k ▸ h) (i := 7) (oi := { dst := some 26, op := _, type := _, pos := _, after := _, guard := _ }) (v := ?_) rfl (by kernel_rfl) (by kernel_rfl) (by kernel_rfl) (fun _ _ _ h => h) (Or.inl (Or.inl ⟨by rfl, ?_⟩)) hS ?_
        rotate_left
        focus ((intro w hSw; (try dsimp only at hSw); have q1 := (hSw.1.blk HQ.out (by decide) (by decide) (by decide)).cell 1 _ rfl; have q2 := (hSw.1.blk HQ.out (by decide) (by decide) (by decide)).cell 2 _ rfl; have q3 := (hSw.1.blk HQ.out (by decide) (by decide) (by decide)).cell 3 _ rfl; go_simp); (try with_reducible rfl))
        intro wq' hwq
        subst hwq
        (try simp only [Act.put, List.setIfInBounds_toArray, List.set_cons_zero, List.set_cons_succ])
        refine wpAnyK_take (fun _ => rfl) (fun _ _ _ h k => h.trans k) (fun _ _ h k => k ▸ h) (i := 8) (oi := { dst := some 27, op := _, type := _, pos := _, after := _, guard := _ }) (v := ?_) rfl (by kernel_rfl) (by kernel_rfl) (by kernel_rfl) (fun _ _ _ h => h) (Or.inl (Or.inl ⟨by rfl, ?_⟩)) hS ?_
        rotate_left
        focus ((intro w hSw; (try dsimp only at hSw); skip; go_simp); (try with_reducible rfl))
        intro wq' hwq
        subst hwq
        (try simp only [Act.put, List.setIfInBounds_toArray, List.set_cons_zero, List.set_cons_succ])
        refine wpAnyK_take (fun _ => rfl) (fun _ _ _ h k => h.trans k) (fun _ _ h k => k ▸ h) (i := 9) (oi := { dst := some 28, op := _, type := _, pos := _, after := _, guard := _ }) (v := ?_) rfl (by kernel_rfl) (by kernel_rfl) (by kernel_rfl) (fun _ _ _ h => h) (Or.inl (Or.inl ⟨by rfl, ?_⟩)) hS ?_
        rotate_left
        focus ((intro w hSw; (try dsimp only at hSw); have q1 := (hSw.1.blk HQ.out (by decide) (by decide) (by decide)).cell 1 _ rfl; have q2 := (hSw.1.blk HQ.out (by decide) (by decide) (by decide)).cell 2 _ rfl; have q3 := (hSw.1.blk HQ.out (by decide) (by decide) (by decide)).cell 3 _ rfl; go_simp); (try with_reducible rfl))
        intro wq' hwq
        subst hwq
        (try simp only [Act.put, List.setIfInBounds_toArray, List.set_cons_zero, List.set_cons_succ])
        refine wpAnyK_take (fun _ => rfl) (fun _ _ _ h k => h.trans k) (fun _ _ h k => k ▸ h) (i := 10) (oi := { dst := some 29, op := _, type := _, pos := _, after := _, guard := _ }) (v := .int .i64 ((offG area gen + u : Nat) : Int)) rfl (by kernel_rfl) (by kernel_rfl) (by kernel_rfl) (fun _ _ _ h => h) (Or.inr ⟨by rfl, 40, #[lptr q, .int .u32 gen, .int .i64 (u : Int)], fun W hW => ⟨?_, HBLK.out W hW⟩⟩) hS ?_
        · first | rfl | (go_simp; done)
        intro wq' hwq
        subst hwq
        (try simp only [Act.put, List.setIfInBounds_toArray, List.set_cons_zero, List.set_cons_succ])
        refine wpAnyK_take (fun _ => rfl) (fun _ _ _ h k => h.trans k) (fun _ _ h k => k ▸ h) (i := 11) (oi := { dst := some 30, op := _, type := _, pos := _, after := _, guard := _ }) (v := ?_) rfl (by kernel_rfl) (by kernel_rfl) (by kernel_rfl) (fun _ _ _ h => h) (Or.inl (Or.inl ⟨by rfl, ?_⟩)) hS ?_
        rotate_left
        focus ((intro w hSw; (try dsimp only at hSw); skip; go_simp); (try with_reducible rfl))
        intro wq' hwq
        subst hwq
        (try simp only [Act.put, List.setIfInBounds_toArray, List.set_cons_zero, List.set_cons_succ])
        refine wpAnyK_take (fun _ => rfl) (fun _ _ _ h k => h.trans k) (fun _ _ h k => k ▸ h) (i := 12) (oi := { dst := some 31, op := _, type := _, pos := _, after := _, guard := _ }) (v := ?_) rfl (by kernel_rfl) (by kernel_rfl) (by kernel_rfl) (fun _ _ _ h => h) (Or.inl (Or.inl ⟨by rfl, ?_⟩)) hS ?_
        rotate_left
        focus ((intro w hSw; (try dsimp only at hSw); have q1 := (hSw.1.blk HQ.out (by decide) (by decide) (by decide)).cell 1 _ rfl; have q2 := (hSw.1.blk HQ.out (by decide) (by decide) (by decide)).cell 2 _ rfl; have q3 := (hSw.1.blk HQ.out (by decide) (by decide) (by decide)).cell 3 _ rfl; go_simp); (try with_reducible rfl))
        intro wq' hwq
        subst hwq
        (try simp only [Act.put, List.setIfInBounds_toArray, List.set_cons_zero, List.set_cons_succ])
        refine wpAnyK_take (fun _ => rfl) (fun _ _ _ h k => h.trans k) (fun _ _ h k => k ▸ h) (i := 13) (oi := { dst := some 32, op := _, type := _, pos := _, after := _, guard := _ }) (v := ?_) rfl (by kernel_rfl) (by kernel_rfl) (by kernel_rfl) (fun _ _ _ h => h) (Or.inl (Or.inl ⟨by rfl, ?_⟩)) hS ?_
        rotate_left
        focus ((intro w hSw; (try dsimp only at hSw); skip; go_simp); (try with_reducible rfl))
        intro wq' hwq
        subst hwq
        (try simp only [Act.put, List.setIfInBounds_toArray, List.set_cons_zero, List.set_cons_succ])
        refine wpAnyK_take (fun _ => rfl) (fun _ _ _ h k => h.trans k) (fun _ _ h k => k ▸ h) (i := 14) (oi := { dst := some 33, op := _, type := _, pos := _, after := _, guard := _ }) (v := ?_) rfl (by kernel_rfl) (by kernel_rfl) (by kernel_rfl) (fun _ _ _ h => h) (Or.inl (Or.inl ⟨by rfl, ?_⟩)) hS ?_
        rotate_left
        focus ((intro w hSw; (try dsimp only at hSw); have q1 := (hSw.1.blk HQ.out (by decide) (by decide) (by decide)).cell 1 _ rfl; have q2 := (hSw.1.blk HQ.out (by decide) (by decide) (by decide)).cell 2 _ rfl; have q3 := (hSw.1.blk HQ.out (by decide) (by decide) (by decide)).cell 3 _ rfl; go_simp); (try with_reducible rfl))
        intro wq' hwq
        subst hwq
        (try simp only [Act.put, List.setIfInBounds_toArray, List.set_cons_zero, List.set_cons_succ])
        refine wpAnyK_take (fun _ => rfl) (fun _ _ _ h k => h.trans k) (fun _ _ h k => k ▸ h) (i := 15) (oi := { dst := some 34, op := _, type := _, pos := _, after := _, guard := _ }) (v := ?_) rfl (by kernel_rfl) (by kernel_rfl) (by kernel_rfl) (fun _ _ _ h => h) (Or.inl (Or.inl ⟨by rfl, ?_⟩)) hS ?_
        rotate_left
        focus ((intro w hSw; (try dsimp only at hSw); skip; go_simp); (try with_reducible rfl))
        intro wq' hwq
        subst hwq
        (try simp only [Act.put, List.setIfInBounds_toArray, List.set_cons_zero, List.set_cons_succ])
        refine wpAnyK_take (fun _ => rfl) (fun _ _ _ h k => h.trans k) (fun _ _ h k => k ▸ h) (i := 16) (oi := { dst := some 35, op := _, type := _, pos := _, after := _, guard := _ }) (v := ?_) rfl (by kernel_rfl) (by kernel_rfl) (by kernel_rfl) (fun _ _ _ h => h) (Or.inl (Or.inl ⟨by rfl, ?_⟩)) hS ?_
        rotate_left
        focus ((intro w hSw; (try dsimp only at hSw); skip; go_simp); (try with_reducible rfl))
        intro wq' hwq
        subst hwq
        (try simp only [Act.put, List.setIfInBounds_toArray, List.set_cons_zero, List.set_cons_succ])
        refine wpAnyK_take (fun _ => rfl) (fun _ _ _ h k => h.trans k) (fun _ _ h k => k ▸ h) (i := 17) (oi := { dst := some 36, op := _, type := _, pos := _, after := _, guard := _ }) (v := ?_) rfl (by kernel_rfl) (by kernel_rfl) (by kernel_rfl) (fun _ _ _ h => h) (Or.inl (Or.inl ⟨by rfl, ?_⟩)) hS ?_
        rotate_left
        focus ((intro w hSw; (try dsimp only at hSw); skip; go_simp); (try with_reducible rfl))
        intro wq' hwq
        subst hwq
        (try simp only [Act.put, List.setIfInBounds_toArray, List.set_cons_zero, List.set_cons_succ])
        refine wpAnyK_take (fun _ => rfl) (fun _ _ _ h k => h.trans k) (fun _ _ h k => k ▸ h) (i := 18) (oi := { dst := some 37, op := _, type := _, pos := _, after := _, guard := _ }) (v := ?_) rfl (by kernel_rfl) (by kernel_rfl) (by kernel_rfl) (fun _ _ _ h => h) (Or.inl (Or.inl ⟨by rfl, ?_⟩)) hS ?_
        rotate_left
        focus ((intro w hSw; (try dsimp only at hSw); skip; go_simp); (try with_reducible rfl))
        intro wq' hwq
        subst hwq
        (try simp only [Act.put, List.setIfInBounds_toArray, List.set_cons_zero, List.set_cons_succ])
        refine wpAnyK_all (rs := [19]) (by kernel_rfl) (by simp) (fun i hi => ?_)
        simp only [List.mem_cons, List.not_mem_nil, or_false] at hi
        subst hi
        refine stepK (o := { dst := some 38, op := _, type := _, pos := _, after := _, guard := _ }) rfl (fun K hK => ?_)
        go_simp
        refine (HWR.out wd lwd).mono ?_
        rintro e w7 ⟨rfl, hda7, hkg7, hbl7⟩
        replace hS : KG gs gn W9 w7 ∧ Below base W9 w7 := ⟨hS.1.trans hkg7, hS.2.trans hbl7⟩
        have HDA7 := Lib.hid hda7
        refine hK _ _ hS ?_
        clear hK hda7 hkg7 hbl7
        intro wq' hwq
        subst hwq
        (try simp only [Act.put, List.setIfInBounds_toArray, List.set_cons_zero, List.set_cons_succ])
        refine wpAnyK_done (by kernel_rfl) ?_ _
        have HS2 := Lib.hid hS
        clear hS
        go_wp2_with fail
        go_meet
        exact ⟨HDA7.out, HS2.out.1, HS2.out.2⟩
      case rest =>
      obtain ⟨⟨cs2, cn2, A22, cf2, hda2⟩, hkg2, hbl2⟩ := hcut
      have hq2 := hkg2.blk HQ.out (by decide) (by decide) (by decide)
      have q3 := hq2.cell 3 _ rfl
      have f3 := hq2.frozen 3
      have HQ2 := Lib.hid hq2
      have HDA2 := Lib.hid hda2
      have HKG2 := Lib.hid hkg2
      have HBL2 := Lib.hid hbl2
      have HRBK := Lib.hid (HRB.out.kl (q := q) HKG2.out.kl HQ.out)
      clear hda2 hkg2 hbl2 hq2 HWR HBLK HDA HQ HRB
      have hfin : LayP base p gs gn B q area gen (used + (k + 1)) (f + (k + 1)) (wn + (k + 1)) (putAt d.now (offG area gen) (P ++ ((laidR gen used r).take (k + 1) ++ List.replicate (area - used - (k + 1)) z))) w (wc.setCell ⟨q, 3, none⟩ (.int .i64 (((u : Nat) : Int) + 1))) := by
        refine ⟨d'.wr (offG area gen + u) (tagB gen u (pieceT (recT r) k)), cs2, cn2, A22, cf2, HDA2.out.set HQ2.out 3 _, ?_, HDO.out.wr hoff _, ?_, (HKL.out.trans HKG2.out.kl).trans (KL.set wc 3 _), ?_⟩
        · have := HQ2.out.set_ 3 (.int .i64 (((u : Nat) : Int) + 1))
          rw [show used + (k + 1) = u + 1 by have := HU.out; omega]
          exact this
        · show d'.now.set _ _ = _
          rw [HNW.out, show u = P.length + k by have := HU.out; omega]
          have hPL : (P ++ ((laidR gen used r).take k ++ List.replicate (area - used - k) z)).length = area := by
            rw [List.length_append, List.length_append, List.length_take, laidR_len, List.length_replicate]; omega
          rw [putAt_set (by rw [hPL]; exact offG_le hnow) (P.length + k) (by rw [hPL]; omega)]
          congr 1
          have := @lay_step gen r P z k (area - used) hk2 (by omega)
          rw [hP] at this ⊢
          exact this
        · exact (HBEL.out.trans HBL2.out).trans (Below.setCell (p := ⟨q, 3, none⟩) (Below.refl _ _) hbq _)
      have HFIN := Lib.hid hfin
      have HRB2 := Lib.hid ((HRBK.out).kl (KL.set (gs := gs) (gn := gn) wc 3 (.int .i64 (((u : Nat) : Int) + 1))) HQ2.out)
      clear hfin HRBK HDA2 HKG2 HBL2 HDO HNW HKL HBEL HQ2
      by_cases htm : tc = m
      · have hLm : L.length = m := by have := HCM.out.1; omega
        have hnil0 : L.drop m = [] := List.drop_of_length_le (by omega)
        have HX := Lib.hid (show (recT r).drop (110 * (k + 1)) = [] from by rw [← HDR.out]; exact hnil0)
        clear hnil0
        subst htm
        go_wp2_with fail
        go_roundw
        case rel => exact ⟨k + 1, _, _, by first | (rw [HX.out]; done) | (rw [HX.out]; rfl), hk2, by rw [HX.out]; exact ⟨.inl rfl, (fun h => by cases h), Nat.le_refl _, by omega⟩, HFIN.out⟩
        case measure => simp [slen]; omega
      · have hz1 : ¬ (tc : Int) - (m : Int) = 0 := by omega
        have hz2 : ¬ tc - m = 0 := by omega
        have hz3 : m < tc := by omega
        have HDL := Lib.hid (show (L.drop m).length = L.length - m from List.length_drop)
        have HRD := Lib.hid (HRB2.out.drop m)
        go_wp2_with fail
        go_roundw
        case rel => exact ⟨k + 1, _, _, by rw [← HDR.out, HDL.out], hk2, by rw [← HDR.out]; exact ⟨.inr HRD.out, (fun h => by cases h), by rw [HDL.out]; have := HCM.out.1; omega, by have := HCM.out.2; omega⟩, HFIN.out⟩
        case measure => simp [slen]; omega
    · have hke : k = blkN r.length := by omega
      have hL0 : L.length = 0 := by
        rcases Nat.eq_zero_or_pos L.length with h | h
        · exact h
        · exact absurd (HMORE.out.1 h) hk2
      have hd : decide ((0 : Int) < (L.length : Int)) = false := by rw [decide_eq_false_iff_not]; omega
      have hd2 : decide (0 < L.length) = false := by rw [decide_eq_false_iff_not]; omega
      have HFIN := Lib.hid (show LayP base p gs gn B q area gen (used + blkN r.length) (f + blkN r.length) (wn + blkN r.length) (putAt d.now (offG area gen) (P ++ (laidR gen used r ++ List.replicate (area - used - blkN r.length) z))) w wr from by
        refine ⟨d', cs', cn', A', cf', HDA.out, by rw [← hke]; exact HQ.out, by rw [← hke]; exact HDO.out, ?_, HKL.out, HBEL.out⟩
        rw [HNW.out, hke, laidR_all])
      clear hke hL0 HDA HQ HDO HNW HKL HBEL HMORE HNXT HDRP
      go_wp2_with fail
      go_end0
      exact ⟨rfl, HFIN.out⟩
end Go.Proofs.YtfplppldojlanaaDoor
