/- Package log: anew. (tools/gen_logi.py) -/
import Derived.Test.YtfplppldojlanaaDoorLogH
namespace Go.Proofs.YtfplppldojlanaaDoor
open Go.RowKit
set_option linter.unusedVariables false

theorem putAt_putAt {now X Y : List (List Nat)} {off : Nat} (h : X.length = Y.length) (ho : off + X.length ≤ now.length) : putAt (putAt now off X) off Y = putAt now off Y := by
  have hl : (now.take off).length = off := by rw [List.length_take]; omega
  have h1 : (putAt now off X).take off = now.take off := by
    unfold putAt
    rw [List.take_append_of_le_length (by omega), List.take_of_length_le (by omega)]
  have h2 : (putAt now off X).drop (off + Y.length) = now.drop (off + Y.length) := by
    rw [← h]
    unfold putAt
    generalize now.drop (off + X.length) = R
    have e : off + X.length = (now.take off ++ X).length := by rw [List.length_append, hl]
    rw [← List.append_assoc, e]
    first
      | rw [List.drop_left]
      | exact List.drop_left' rfl
  show (putAt now off X).take off ++ (Y ++ (putAt now off X).drop (off + Y.length)) = _
  rw [h1, h2]; rfl
theorem layP_flush {base p gs gn B q area gen used f wn : Nat} {now : List (List Nat)} {w wr : World} (h : LayP base p gs gn B q area gen used f wn now w wr) (hB : B ≤ 4000) (hf : f ≤ 100000) (hbq : base ≤ q) :
    Calls Tryd.prog 41 #[dptr p] wr fun e w' => e = .returned (.tuple #[]) ∧ LayP base p gs gn B q area gen used 0 wn now w w' := by
  obtain ⟨d, cs, cn, A, cf, h1, h2, h3, h4, h5, h6⟩ := h
  refine (devFlush_g base p gs gn B cs cn A cf d wr h1 hB h3.run (by have := h3.fly; omega) h3.at_ (Nat.le_trans hbq (Nat.le_of_lt h2.lt))).mono ?_
  rintro e w' ⟨he, ⟨cs2, cn2, A2, cf2, hd⟩, hk, hb⟩
  exact ⟨he, d.fl, cs2, cn2, A2, cf2, hd, hk.blk h2 (by decide) (by decide) (by decide), h3.fl, h4, h5.trans hk.kl, h6.trans hb⟩
theorem layP_slot {base p gs gn B q area gen used f wn : Nat} {now : List (List Nat)} {w wr : World} (h : LayP base p gs gn B q area gen used f wn now w wr) (hB : B ≤ 4000) (hf : f ≤ 90000) (hwn : wn ≤ 90000) (hbq : base ≤ q) (hg : gen < 4294967296) (i : Nat) (hi : i < B) :
    Calls Tryd.prog 43 #[lptr q, .int .i64 i, .int .u32 4294967295, .slice none 0 0] wr fun e w' => e = .returned (.tuple #[]) ∧ LayP base p gs gn B q area gen used (f + 1) (wn + 1) (now.set i (tagB gen 4294967295 [])) w w' := by
  obtain ⟨d, cs, cn, A, cf, h1, h2, h3, h4, h5, h6⟩ := h
  refine (logWrite_any base p gs gn B cs cn A cf d q area gen used i 4294967295 none 0 0 [] wr h1 hB h2 hg (by decide) hi h3.run rfl (by decide) (fun x hx => by cases hx) (.inl rfl) (fun _ => rfl) (by have := h3.fly; omega) ⟨by have := h3.hi; omega, h3.lo⟩ (Nat.le_trans hbq (Nat.le_of_lt h2.lt))).mono ?_
  rintro e w' ⟨he, ⟨cs2, cn2, A2, cf2, hd⟩, hk, hb⟩
  exact ⟨he, d.wr i _, cs2, cn2, A2, cf2, hd, hk.blk h2 (by decide) (by decide) (by decide), h3.wr hi _, by show d.now.set _ _ = _; rw [h4], h5.trans hk.kl, h6.trans hb⟩
/-- What anew gives. -/
def AnewP (base p gs gn B q area gen used wn : Nat) (L : List (List Nat)) (w : World) (e : Ending) (w' : World) : Prop :=
  (fitsE area L ≠ 0 ∧ (∃ v, e = .returned v ∧ WrapsE w' v (fitsE area L)) ∧ Later w w') ∨
  (fitsE area L = 0 ∧ e = .returned .nilIface ∧ ∃ now, LgS area (gen + 1) L now ∧ LayP base p gs gn B q area (gen + 1) (sumN L) 0 (wn + area + sumN L + 1) now w w')

set_option maxRecDepth 100000 in
set_option maxHeartbeats 4000000 in
theorem logAnew_any (base p gs gn B cs cn : Nat) (A : Option Addr) (cf : Nat) (d : D) (q area gen used : Nat) (T : Option Addr) (n c : Nat) (ss : List SlB) (w : World) (f wn : Nat) (h : DA w base p gs gn B cs cn A cf d) (hB : B ≤ 4000) (hq : LogBk w q p area gen used) (hf : FitsD B area) (hg : gen + 1 ≤ 4294967294) (hd : DOk B f wn d) (hfl : f ≤ 20000) (hwn : wn ≤ 20000) (hbq : base ≤ q)
    (hn : n = ss.length) (hl : ss.length ≤ 1000) (hstab : ∀ W, KL gs gn q w W → Below base w W → Has W T (ss.map SlB.v) ∧ ∀ s ∈ ss, Has W s.a (ints .u8 s.l)) (hs : ∀ s ∈ ss, s.l.length ≤ 990 ∧ (∀ x ∈ s.l, x < 256) ∧ (s.a = none → s.c = 0))
    (ho : ∃ b, d.now[(gen + 1 + 1) % 2]? = some b ∧ slotG ((gen + 1 + 1) % 2) b < gen + 1) :
    Calls Tryd.prog 26 #[lptr q, .slice T n c] w (AnewP base p gs gn B q area gen used wn (ss.map (·.l)) w) := by
  subst hn
  have harea : area ≤ 1000 := by have := hf.2.1; omega
  have hnow : 2 + 2 * area ≤ d.now.length := by rw [h.2.2.1.1]; have := hf.2.2; omega
  have HFT := Lib.hid (logFits_any area T ss.length c ss w rfl (by omega) (hstab w (KL.refl w) (Below.refl _ _)).1 (fun s hs' => by have := (hs s hs').1; omega))
  have HDA := Lib.hid h
  have HQ := Lib.hid hq
  have HD := Lib.hid hd
  have HST := Lib.hid hstab
  have HSS := Lib.hid hs
  have HO := Lib.hid ho
  have HF := Lib.hid hf
  have q1 := hq.cell 1 _ rfl
  have hif : Tryd.prog.isIface 57 = true := by kernel_rfl
  have HEQ := Lib.hid (fun (w : World) (v : Value) => run_eql_iface_nil (P := Tryd.prog) (w := w) 57 hif 86 v)
  have M128 := Lib.hid (show ∀ W : World, (Instr.makeSlice 24 (.int .i64 128) (.int .i64 128)).run Tryd.prog W = .ok (.slice (some ⟨W.heap.size, 0, none⟩) 128 128) (W.alloc (.cells (madeCells #[.int .u8 0] 128) 5)) from fun W => run_make_cap 128 128 (Nat.le_refl _) (by omega) W)
  have MC := Lib.hid (show madeCells #[.int .u8 0] 128 = (ints .u8 (List.replicate 128 0)).toArray from by kernel_rfl)
  obtain ⟨L, hL⟩ : ∃ x, ss.map (·.l) = x := ⟨_, rfl⟩
  rw [hL] at HFT ⊢
  have HL := Lib.hid hL
  clear h hq hd hstab hs ho hf hif hL
  go_enter Tryd.func26, Tryd.ntmps26
  go_wp2_with fail
  refine HFT.out.mono ?_
  rintro e w1 ⟨⟨hz, rfl⟩ | ⟨hz, v, rfl, hv⟩, l1⟩
  · have hQ1 := HQ.out.later l1
    have c2 := hQ1.cell 2 _ rfl
    have c3 := hQ1.cell 3 _ rfl
    have f2 := hQ1.frozen 2
    have f3 := hQ1.frozen 3
    obtain ⟨g2, hg2⟩ : ∃ x, gen + 1 = x := ⟨_, rfl⟩
    have hwg : IntKind.u32.wrap ((gen : Int) + 1) = (g2 : Int) := by rw [IntKind.wrap_u32]; omega
    have HZ := Lib.hid hz
    have HG2 := Lib.hid hg2
    have HL1 := Lib.hid l1
    have hQ2 : LogBk ((w1.setCell ⟨q, 2, none⟩ (.int .u32 (g2 : Int))).setCell ⟨q, 3, none⟩ (.int .i64 0)) q p area g2 0 := (hQ1.set_ 2 _).set_ 3 _
    have k1 := hQ2.cell 1 _ rfl
    have HQ2 := Lib.hid hQ2
    have HQ1 := Lib.hid hQ1
    have HI0 := Lib.hid (show LayP base p gs gn B q area g2 0 f wn d.now w ((w1.setCell ⟨q, 2, none⟩ (.int .u32 (g2 : Int))).setCell ⟨q, 3, none⟩ (.int .i64 0)) from
      ⟨d, cs, cn, A, cf, ((HDA.out.later l1).set hQ1 2 _).set (hQ1.set_ 2 _) 3 _, hQ2, HD.out, rfl, ((KL.later l1).trans (KL.set w1 2 _)).trans (KL.set _ 3 _),
        ((Below.mono l1.below (Nat.le_trans hbq (Nat.le_of_lt HQ.out.lt))).trans (Below.setCell (p := ⟨q, 2, none⟩) (Below.refl _ _) hbq _)).trans (Below.setCell (p := ⟨q, 3, none⟩) (Below.refl _ _) hbq _)⟩)
    have HZA := Lib.hid (show putAt d.now (offG area g2) (List.replicate 0 (List.replicate 128 0) ++ (areaG area g2 d.now).drop 0) = d.now from by
      rw [List.replicate_zero, List.nil_append, List.drop_zero]
      exact putAt_self (offG_le hnow))
    have HI1 := Lib.hid (show ∃ k : Nat, Value.int .i64 0 = .int .i64 k ∧ k ≤ area ∧ LayP base p gs gn B q area g2 0 (f + k) (wn + k) (putAt d.now (offG area g2) (List.replicate k (List.replicate 128 0) ++ (areaG area g2 d.now).drop k)) w ((w1.setCell ⟨q, 2, none⟩ (.int .u32 (g2 : Int))).setCell ⟨q, 3, none⟩ (.int .i64 0)) from
      ⟨0, rfl, Nat.zero_le _, by rw [HZA.out]; exact HI0.out⟩)
    clear hQ1 hQ2 hz hg2 l1 HDA HD HQ HFT q1 HQ1 HI0 HZA
    go_wp2_with fail
    go_loopw [33] (fun iv wr => ∃ k : Nat, iv = .int .i64 k ∧ k ≤ area ∧ LayP base p gs gn B q area g2 0 (f + k) (wn + k) (putAt d.now (offG area g2) (List.replicate k (List.replicate 128 0) ++ (areaG area g2 d.now).drop k)) w wr) (fun iv _ => area - (intOf iv).toNat)
    case atStart => exact HI1.out
    case round =>
      obtain ⟨k, rfl, hk, hlay⟩ := hrel
      have HLAY := Lib.hid hlay
      clear HI1 hlay
      by_cases hlt : k < area
      · have hd1 : decide ((k : Int) < (area : Int)) = true := by rw [decide_eq_true_iff]; omega
        have hd2 : decide (k < area) = true := by rw [decide_eq_true_iff]; omega
        obtain ⟨d1, cs1, cn1, A1, cf1, hda, hqb, hdo, hnw, hkl, hbel⟩ := HLAY.out
        have HDA := Lib.hid hda
        have HQ := Lib.hid hqb
        have HDO := Lib.hid hdo
        obtain ⟨W9, hW9⟩ : ∃ x, x = wr := ⟨_, rfl⟩
        subst hW9
        have HBASE := Lib.hid (show base ≤ W9.heap.size from Nat.le_trans hbq (Nat.le_of_lt hqb.lt))
        have hoff : offG area g2 + k < B := by
          have h1 := offG_le (area := area) (gen := g2) (n := B) (by have := HF.out.2.2; omega)
          omega
        have HBLK := Lib.hid (fun (W : World) (hW : KG gs gn W9 W ∧ Below base W9 W) => show Calls Tryd.prog 40 #[lptr q, .int .u32 g2, .int .i64 (k : Int)] W (fun e w' => e = .returned (.int .i64 ((offG area g2 + k : Nat) : Int)) ∧ W = w') from logBlock_any q p area g2 0 g2 k W (hW.1.blk HQ.out (by decide) (by decide) (by decide)) (by omega) (by omega) (by have := HG2.out; omega))
        have HWR := Lib.hid (fun (W : World) (gm : Nat) (lW : Later W9 W) (hz : Has W (some ⟨gm, 0, none⟩) (ints .u8 (List.replicate 128 0))) => show Calls Tryd.prog 39 #[dptr p, .int .i64 ((offG area g2 + k : Nat) : Int), .slice (some ⟨gm, 0, none⟩) 128 128] W (fun e w' => e = .returned (.bool true) ∧ DoneG base p gs gn B (d1.wr (offG area g2 + k) (List.replicate 128 0)) W w') from
          devWrite_g base p gs gn B cs1 cn1 A1 cf1 d1 (offG area g2 + k) (some ⟨gm, 0, none⟩) 128 (List.replicate 128 0) W (HDA.out.later lW) hoff hB HDO.out.run (List.length_replicate) hz (fun x hx => by rw [List.eq_of_mem_replicate hx]; decide) (by have := HDO.out.fly; omega) ⟨by have := HDO.out.hi; omega, HDO.out.lo⟩ (Nat.le_trans HBASE.out lW.size) (fun h => by cases h))
        have HNEXT := Lib.hid (fun (W : World) (hda2 : ∃ cs cn A cf, DA W base p gs gn B cs cn A cf (d1.wr (offG area g2 + k) (List.replicate 128 0))) (hkg : KG gs gn W9 W) (hbl : Below base W9 W) => show LayP base p gs gn B q area g2 0 (f + (k + 1)) (wn + (k + 1)) (putAt d.now (offG area g2) (List.replicate (k + 1) (List.replicate 128 0) ++ (areaG area g2 d.now).drop (k + 1))) w W from by
          obtain ⟨cs2, cn2, A2, cf2, hd2⟩ := hda2
          refine ⟨d1.wr (offG area g2 + k) (List.replicate 128 0), cs2, cn2, A2, cf2, hd2, hkg.blk hqb (by decide) (by decide) (by decide), hdo.wr hoff _, ?_, hkl.trans hkg.kl, hbel.trans hbl⟩
          show d1.now.set _ _ = _
          have hal : (areaG area g2 d.now).length = area := areaG_len hnow
          have hLn : (List.replicate k (List.replicate 128 0) ++ (areaG area g2 d.now).drop k).length = area := by
            rw [List.length_append, List.length_replicate, List.length_drop, hal]; omega
          rw [hnw, putAt_set (by rw [hLn]; exact offG_le hnow) k (by rw [hLn]; exact hlt)]
          rw [zero_step (List.replicate 128 0) (by rw [hal]; exact hlt)])
        clear hda hqb hdo hnw hkl hbel HDA HDO HLAY
        go_upto_region 8 with fail
        refine wp_region_K (S := fun W : World => KG gs gn W9 W ∧ Below base W9 W) (R := fun a b => a = b) (fun _ => rfl) (by kernel_rfl) ?_
        obtain ⟨wd, hwd⟩ : ∃ x, W9.drew = x := ⟨_, rfl⟩
        have lwd : Later W9 wd := hwd ▸ (Later.refl W9).drew
        have hS : KG gs gn W9 wd ∧ Below base W9 wd := ⟨KG.later lwd, Below.mono lwd.below HBASE.out⟩
        rw [hwd]
        clear hwd
        refine wpAnyK_take (fun _ => rfl) (fun _ _ _ h k => h.trans k) (fun _ _ h k => k ▸ h) (i := 0) (oi := { dst := some 36, op := _, type := _, pos := _, after := _, guard := _ }) (v := ?_) rfl (by kernel_rfl) (by kernel_rfl) (by kernel_rfl) (fun _ _ _ h => h) (Or.inl (Or.inl ⟨by rfl, ?_⟩)) hS ?_
        rotate_left
        focus ((intro w hSw; (try dsimp only at hSw); skip; go_simp); (try with_reducible rfl))
        intro wq' hwq
        subst hwq
        (try simp only [Act.put, List.setIfInBounds_toArray, List.set_cons_zero, List.set_cons_succ])
        refine wpAnyK_take (fun _ => rfl) (fun _ _ _ h k => h.trans k) (fun _ _ h k => k ▸ h) (i := 1) (oi := { dst := some 37, op := _, type := _, pos := _, after := _, guard := _ }) (v := ?_) rfl (by kernel_rfl) (by kernel_rfl) (by kernel_rfl) (fun _ _ _ h => h) (Or.inl (Or.inl ⟨by rfl, ?_⟩)) hS ?_
        rotate_left
        focus ((intro w hSw; (try dsimp only at hSw); have q0 := (hSw.1.blk HQ.out (by decide) (by decide) (by decide)).cell 0 _ rfl; have q1 := (hSw.1.blk HQ.out (by decide) (by decide) (by decide)).cell 1 _ rfl; have q2 := (hSw.1.blk HQ.out (by decide) (by decide) (by decide)).cell 2 _ rfl; go_simp); (try with_reducible rfl))
        intro wq' hwq
        subst hwq
        (try simp only [Act.put, List.setIfInBounds_toArray, List.set_cons_zero, List.set_cons_succ])
        refine wpAnyK_take (fun _ => rfl) (fun _ _ _ h k => h.trans k) (fun _ _ h k => k ▸ h) (i := 2) (oi := { dst := some 38, op := _, type := _, pos := _, after := _, guard := _ }) (v := ?_) rfl (by kernel_rfl) (by kernel_rfl) (by kernel_rfl) (fun _ _ _ h => h) (Or.inl (Or.inl ⟨by rfl, ?_⟩)) hS ?_
        rotate_left
        focus ((intro w hSw; (try dsimp only at hSw); skip; go_simp); (try with_reducible rfl))
        intro wq' hwq
        subst hwq
        (try simp only [Act.put, List.setIfInBounds_toArray, List.set_cons_zero, List.set_cons_succ])
        refine wpAnyK_take (fun _ => rfl) (fun _ _ _ h k => h.trans k) (fun _ _ h k => k ▸ h) (i := 3) (oi := { dst := some 39, op := _, type := _, pos := _, after := _, guard := _ }) (v := ?_) rfl (by kernel_rfl) (by kernel_rfl) (by kernel_rfl) (fun _ _ _ h => h) (Or.inl (Or.inl ⟨by rfl, ?_⟩)) hS ?_
        rotate_left
        focus ((intro w hSw; (try dsimp only at hSw); have q0 := (hSw.1.blk HQ.out (by decide) (by decide) (by decide)).cell 0 _ rfl; have q1 := (hSw.1.blk HQ.out (by decide) (by decide) (by decide)).cell 1 _ rfl; have q2 := (hSw.1.blk HQ.out (by decide) (by decide) (by decide)).cell 2 _ rfl; go_simp); (try with_reducible rfl))
        intro wq' hwq
        subst hwq
        (try simp only [Act.put, List.setIfInBounds_toArray, List.set_cons_zero, List.set_cons_succ])
        refine wpAnyK_take (fun _ => rfl) (fun _ _ _ h k => h.trans k) (fun _ _ h k => k ▸ h) (i := 4) (oi := { dst := some 40, op := _, type := _, pos := _, after := _, guard := _ }) (v := ?_) rfl (by kernel_rfl) (by kernel_rfl) (by kernel_rfl) (fun _ _ _ h => h) (Or.inl (Or.inl ⟨by rfl, ?_⟩)) hS ?_
        rotate_left
        focus ((intro w hSw; (try dsimp only at hSw); skip; go_simp); (try with_reducible rfl))
        intro wq' hwq
        subst hwq
        (try simp only [Act.put, List.setIfInBounds_toArray, List.set_cons_zero, List.set_cons_succ])
        refine wpAnyK_take (fun _ => rfl) (fun _ _ _ h k => h.trans k) (fun _ _ h k => k ▸ h) (i := 5) (oi := { dst := some 41, op := _, type := _, pos := _, after := _, guard := _ }) (v := ?_) rfl (by kernel_rfl) (by kernel_rfl) (by kernel_rfl) (fun _ _ _ h => h) (Or.inl (Or.inl ⟨by rfl, ?_⟩)) hS ?_
        rotate_left
        focus ((intro w hSw; (try dsimp only at hSw); skip; go_simp); (try with_reducible rfl))
        intro wq' hwq
        subst hwq
        (try simp only [Act.put, List.setIfInBounds_toArray, List.set_cons_zero, List.set_cons_succ])
        refine wpAnyK_take (fun _ => rfl) (fun _ _ _ h k => h.trans k) (fun _ _ h k => k ▸ h) (i := 6) (oi := { dst := some 42, op := _, type := _, pos := _, after := _, guard := _ }) (v := ?_) rfl (by kernel_rfl) (by kernel_rfl) (by kernel_rfl) (fun _ _ _ h => h) (Or.inl (Or.inl ⟨by rfl, ?_⟩)) hS ?_
        rotate_left
        focus ((intro w hSw; (try dsimp only at hSw); have q0 := (hSw.1.blk HQ.out (by decide) (by decide) (by decide)).cell 0 _ rfl; have q1 := (hSw.1.blk HQ.out (by decide) (by decide) (by decide)).cell 1 _ rfl; have q2 := (hSw.1.blk HQ.out (by decide) (by decide) (by decide)).cell 2 _ rfl; go_simp); (try with_reducible rfl))
        intro wq' hwq
        subst hwq
        (try simp only [Act.put, List.setIfInBounds_toArray, List.set_cons_zero, List.set_cons_succ])
        refine wpAnyK_take (fun _ => rfl) (fun _ _ _ h k => h.trans k) (fun _ _ h k => k ▸ h) (i := 7) (oi := { dst := some 43, op := _, type := _, pos := _, after := _, guard := _ }) (v := ?_) rfl (by kernel_rfl) (by kernel_rfl) (by kernel_rfl) (fun _ _ _ h => h) (Or.inl (Or.inl ⟨by rfl, ?_⟩)) hS ?_
        rotate_left
        focus ((intro w hSw; (try dsimp only at hSw); skip; go_simp); (try with_reducible rfl))
        intro wq' hwq
        subst hwq
        (try simp only [Act.put, List.setIfInBounds_toArray, List.set_cons_zero, List.set_cons_succ])
        refine wpAnyK_take (fun _ => rfl) (fun _ _ _ h k => h.trans k) (fun _ _ h k => k ▸ h) (i := 8) (oi := { dst := some 44, op := _, type := _, pos := _, after := _, guard := _ }) (v := ?_) rfl (by kernel_rfl) (by kernel_rfl) (by kernel_rfl) (fun _ _ _ h => h) (Or.inl (Or.inl ⟨by rfl, ?_⟩)) hS ?_
        rotate_left
        focus ((intro w hSw; (try dsimp only at hSw); have q0 := (hSw.1.blk HQ.out (by decide) (by decide) (by decide)).cell 0 _ rfl; have q1 := (hSw.1.blk HQ.out (by decide) (by decide) (by decide)).cell 1 _ rfl; have q2 := (hSw.1.blk HQ.out (by decide) (by decide) (by decide)).cell 2 _ rfl; go_simp); (try with_reducible rfl))
        intro wq' hwq
        subst hwq
        (try simp only [Act.put, List.setIfInBounds_toArray, List.set_cons_zero, List.set_cons_succ])
        refine wpAnyK_take (fun _ => rfl) (fun _ _ _ h k => h.trans k) (fun _ _ h k => k ▸ h) (i := 9) (oi := { dst := some 45, op := _, type := _, pos := _, after := _, guard := _ }) (v := ?_) rfl (by kernel_rfl) (by kernel_rfl) (by kernel_rfl) (fun _ _ _ h => h) (Or.inl (Or.inl ⟨by rfl, ?_⟩)) hS ?_
        rotate_left
        focus ((intro w hSw; (try dsimp only at hSw); skip; go_simp); (try with_reducible rfl))
        intro wq' hwq
        subst hwq
        (try simp only [Act.put, List.setIfInBounds_toArray, List.set_cons_zero, List.set_cons_succ])
        refine wpAnyK_take (fun _ => rfl) (fun _ _ _ h k => h.trans k) (fun _ _ h k => k ▸ h) (i := 10) (oi := { dst := some 46, op := _, type := _, pos := _, after := _, guard := _ }) (v := .int .i64 ((offG area g2 + k : Nat) : Int)) rfl (by kernel_rfl) (by kernel_rfl) (by kernel_rfl) (fun _ _ _ h => h) (Or.inr ⟨by rfl, 40, #[lptr q, .int .u32 g2, .int .i64 (k : Int)], fun W hW => ⟨?_, HBLK.out W hW⟩⟩) hS ?_
        · first | rfl | (go_simp; done)
        intro wq' hwq
        subst hwq
        (try simp only [Act.put, List.setIfInBounds_toArray, List.set_cons_zero, List.set_cons_succ])
        refine wpAnyK_all (rs := [11]) (by kernel_rfl) (by simp) (fun i hi => ?_)
        simp only [List.mem_cons, List.not_mem_nil, or_false] at hi
        subst hi
        refine stepK (o := { dst := some 47, op := _, type := _, pos := _, after := _, guard := _ }) rfl (fun K hK => ?_)
        have hmk := M128.out wd
        go_simp
        obtain ⟨gm, hgm⟩ : ∃ x, wd.heap.size = x := ⟨_, rfl⟩
        obtain ⟨we, hwe⟩ : ∃ x, wd.alloc (.cells (madeCells #[.int .u8 0] 128) 5) = x := ⟨_, rfl⟩
        have lwe : Later wd we := hwe ▸ Later.new _ _
        have hbz : Has we (some ⟨gm, 0, none⟩) (ints .u8 (List.replicate 128 0)) := by
          have hb : Blk we gm (ints .u8 (List.replicate 128 0)).toArray 5 := by rw [← MC.out, ← hwe]; exact Blk.new wd _ _ gm hgm.symm
          exact blk_hasL hb
        have HBZ := Lib.hid hbz
        try rw [hgm]
        rw [hwe]
        replace hS : KG gs gn W9 we ∧ Below base W9 we := ⟨hS.1.trans (KG.later lwe), hS.2.trans (Below.mono lwe.below (Nat.le_trans HBASE.out lwd.size))⟩
        have lwf : Later W9 we := lwd.trans lwe
        refine hK _ _ hS ?_
        clear hK hwe hgm hbz hmk lwe lwd
        intro wq' hwq
        subst hwq
        (try simp only [Act.put, List.setIfInBounds_toArray, List.set_cons_zero, List.set_cons_succ])
        refine wpAnyK_all (rs := [12]) (by kernel_rfl) (by simp) (fun i hi => ?_)
        simp only [List.mem_cons, List.not_mem_nil, or_false] at hi
        subst hi
        refine stepK (o := { dst := some 48, op := _, type := _, pos := _, after := _, guard := _ }) rfl (fun K hK => ?_)
        go_simp
        refine (HWR.out we gm lwf HBZ.out).mono ?_
        rintro e w7 ⟨rfl, hda7, hkg7, hbl7⟩
        replace hS : KG gs gn W9 w7 ∧ Below base W9 w7 := ⟨hS.1.trans hkg7, hS.2.trans hbl7⟩
        have HDA7 := Lib.hid hda7
        have HS7 := Lib.hid hS
        refine hK _ _ hS ?_
        clear hK hda7 hkg7 hbl7
        intro wq' hwq
        subst hwq
        (try simp only [Act.put, List.setIfInBounds_toArray, List.set_cons_zero, List.set_cons_succ])
        refine wpAnyK_done (by kernel_rfl) ?_ _
        clear hS
        have hfin := HNEXT.out w7 HDA7.out HS7.out.1 HS7.out.2
        have HFIN := Lib.hid hfin
        clear hfin HWR HBLK HNEXT HQ HBZ lwf
        go_wp2_with fail
        go_roundw
        case rel => exact ⟨k + 1, by go_num, hlt, HFIN.out⟩
        case measure => simp [intOf]; omega
      · obtain rfl : area = k := by omega
        have hd1 : decide ((area : Int) < (area : Int)) = false := by rw [decide_eq_false_iff_not]; omega
        obtain ⟨now0, hnow0⟩ : ∃ x, putAt d.now (offG area g2) (List.replicate area (List.replicate 128 0)) = x := ⟨_, rfl⟩
        have hz0 : List.replicate area (List.replicate 128 0) ++ (areaG area g2 d.now).drop area = List.replicate area (List.replicate 128 0) := by
          rw [List.drop_of_length_le (by rw [areaG_len hnow]; exact Nat.le_refl _), List.append_nil]
        have hlay := HLAY.out
        rw [hz0, hnow0] at hlay
        have HFL := Lib.hid (layP_flush hlay hB (by omega) hbq)
        obtain ⟨dx, csx, cnx, Ax, cfx, hdx, hqx, _⟩ := hlay
        have k0 := hqx.cell 0 _ rfl
        have HN0 := Lib.hid hnow0
        clear hz0 hnow0 hdx hqx HLAY
        go_wp2_with fail
        refine HFL.out.mono ?_
        rintro e w2 ⟨rfl, hlay⟩
        have hsum : sumN L ≤ area := by
          have hz := HZ.out
          unfold fitsE at hz
          split at hz
          · split at hz
            · cases hz
            · omega
          · cases hz
        have HSUM := Lib.hid hsum
        have HLL := Lib.hid (show ss.length = L.length from by rw [← HL.out, List.length_map])
        have HLK := Lib.hid (show ∀ k (h : k < ss.length) (h2 : k < L.length), ss[k].l = L[k] from fun k h h2 => by have h := HL.out; subst h; simp)
        have HLAY := Lib.hid (show LayP base p gs gn B q area g2 (sumN (L.take 0)) (0 + sumN (L.take 0)) (wn + area + sumN (L.take 0)) (putAt d.now (offG area g2) (layR g2 0 (L.take 0) ++ List.replicate (area - sumN (L.take 0)) (List.replicate 128 0))) w w2 from by
          rw [List.take_zero, show layR g2 0 [] = [] from rfl, List.nil_append, show sumN [] = 0 from rfl, Nat.sub_zero, HN0.out]
          exact hlay)
        have HJ0 := Lib.hid (show ∃ k : Nat, Value.int .i64 0 = .int .i64 k ∧ k ≤ ss.length ∧ LayP base p gs gn B q area g2 (sumN (L.take k)) (0 + sumN (L.take k)) (wn + area + sumN (L.take k)) (putAt d.now (offG area g2) (layR g2 0 (L.take k) ++ List.replicate (area - sumN (L.take k)) (List.replicate 128 0))) w w2 from ⟨0, rfl, Nat.zero_le _, HLAY.out⟩)
        clear hlay HFL hsum HLAY k0
        go_wp2_with fail
        go_loopw [57] (fun iv wr => ∃ k : Nat, iv = .int .i64 k ∧ k ≤ ss.length ∧ LayP base p gs gn B q area g2 (sumN (L.take k)) (0 + sumN (L.take k)) (wn + area + sumN (L.take k)) (putAt d.now (offG area g2) (layR g2 0 (L.take k) ++ List.replicate (area - sumN (L.take k)) (List.replicate 128 0))) w wr) (fun iv _ => ss.length - (intOf iv).toNat)
        case atStart => exact HJ0.out
        case round =>
          obtain ⟨k, rfl, hk, hlay⟩ := hrel
          have HLAY := Lib.hid hlay
          clear HJ0 hlay
          by_cases hlt : k < ss.length
          · have hkz : (k : Int) < (ss.length : Int) := by omega
            have hkl : k < L.length := by rw [← HLL.out]; exact hlt
            obtain ⟨d1, cs1, cn1, A1, cf1, hda, hqb, hdo, hnw, hkll, hbel⟩ := HLAY.out
            obtain ⟨hTab, hEl⟩ := HST.out wr hkll hbel
            obtain ⟨b, off, hA, _, hc⟩ := hTab.at_ (k := k) (by rw [List.length_map]; exact hlt)
            subst hA
            have hv : (ss.map SlB.v)[k]'(by rw [List.length_map]; exact hlt) = .slice ss[k].a L[k].length ss[k].c := by
              rw [List.getElem_map, ← HLK.out k hlt hkl]; rfl
            rw [hv] at hc
            have hel := hEl _ (List.getElem_mem hlt)
            obtain ⟨h990, h256, hnilk⟩ := HSS.out _ (List.getElem_mem hlt)
            rw [HLK.out k hlt hkl] at hel h990 h256
            have hst := sumN_take hkl
            have hle : sumN (L.take (k + 1)) ≤ sumN L := by
              conv => rhs; rw [← List.take_append_drop (k + 1) L]
              unfold sumN
              rw [List.map_append, List.sum_append]
              omega
            have hlayk : layR g2 0 (L.take (k + 1)) = layR g2 0 (L.take k) ++ laidR g2 (sumN (L.take k)) L[k] := by
              rw [List.take_succ_eq_append_getElem hkl, layR_snoc, Nat.zero_add]
            have hal : areaG area g2 d1.now = layR g2 0 (L.take k) ++ List.replicate (area - sumN (L.take k)) (List.replicate 128 0) := by
              rw [hnw]
              exact areaG_put hnow (by rw [List.length_append, layR_len, List.length_replicate]; have := HSUM.out; omega)
            have HLY := Lib.hid (logLay_any base p gs gn B cs1 cn1 A1 cf1 d1 q area g2 (sumN (L.take k)) ss[k].a L[k].length ss[k].c L[k] wr (0 + sumN (L.take k)) (wn + area + sumN (L.take k)) hda hB hqb HF.out (by have := HG2.out; omega) hdo (by have := HSUM.out; omega) (by have := HSUM.out; omega) hbq rfl hel hnilk h990 h256 (layR g2 0 (L.take k)) (List.replicate 128 0) (layR_len _ _ _) (by have := HSUM.out; omega) hal)
            have HNX := Lib.hid (fun (W : World) (hp : LayP base p gs gn B q area g2 (sumN (L.take k) + blkN L[k].length) (0 + sumN (L.take k) + blkN L[k].length) (wn + area + sumN (L.take k) + blkN L[k].length) (putAt d1.now (offG area g2) (layR g2 0 (L.take k) ++ (laidR g2 (sumN (L.take k)) L[k] ++ List.replicate (area - sumN (L.take k) - blkN L[k].length) (List.replicate 128 0)))) wr W) => show LayP base p gs gn B q area g2 (sumN (L.take (k + 1))) (0 + sumN (L.take (k + 1))) (wn + area + sumN (L.take (k + 1))) (putAt d.now (offG area g2) (layR g2 0 (L.take (k + 1)) ++ List.replicate (area - sumN (L.take (k + 1))) (List.replicate 128 0))) w W from by
              obtain ⟨d2, cs2, cn2, A2, cf2, h1, h2, h3, h4, h5, h6⟩ := hp
              refine ⟨d2, cs2, cn2, A2, cf2, h1, by rw [hst]; exact h2, h3.more (by rw [hst]; omega) (by rw [hst]; omega), ?_, hkll.trans h5, hbel.trans h6⟩
              have hsl := HSUM.out
              rw [h4, hnw, putAt_putAt (by simp only [List.length_append, layR_len, laidR_len, List.length_replicate]; omega) (by simp only [List.length_append, layR_len, List.length_replicate]; rw [show sumN (L.take k) + (area - sumN (L.take k)) = area by omega]; exact offG_le hnow), hlayk, hst, Nat.sub_sub, List.append_assoc])
            clear hda hqb hdo hnw hkll hbel hTab hEl hv hel h990 h256 hnilk hst hle hlayk hal HLAY
            go_wp2_with fail
            refine HLY.out.mono ?_
            rintro e w4 ⟨rfl, hp⟩
            have HFIN := Lib.hid (HNX.out w4 hp)
            clear hp HNX HLY hc
            go_wp2_with fail
            go_roundw
            case rel => exact ⟨k + 1, by go_num, hlt, HFIN.out⟩
            case measure => simp [intOf]; omega
          · have hke : k = ss.length := by omega
            have hT : L.take k = L := List.take_of_length_le (by have := HLL.out; omega)
            have hkz : ¬ (k : Int) < (ss.length : Int) := by omega
            have hlay := HLAY.out
            rw [hT] at hlay
            have hsl := HSUM.out
            have hoff2 : g2 % 2 < B := by have := HF.out.1; have := HF.out.2.2; omega
            have HFL := Lib.hid (layP_flush hlay hB (by omega) hbq)
            obtain ⟨now1, hnow1⟩ : ∃ x, putAt d.now (offG area g2) (layR g2 0 L ++ List.replicate (area - sumN L) (List.replicate 128 0)) = x := ⟨_, rfl⟩
            rw [hnow1] at HFL
            have HN1 := Lib.hid hnow1
            obtain ⟨dx, csx, cnx, Ax, cfx, hdx, hqx, _⟩ := hlay
            have k0 := hqx.cell 0 _ rfl
            clear hdx hqx HLAY hnow1 hke hT
            go_wp2_with fail
            refine HFL.out.mono ?_
            rintro e w5 ⟨rfl, hlay5⟩
            have HWS := Lib.hid (layP_slot hlay5 hB (by omega) (by omega) hbq (by have := HG2.out; omega) (g2 % 2) hoff2)
            obtain ⟨dy, csy, cny, Ay, cfy, hdy, hqy, _⟩ := hlay5
            have k2 := hqy.cell 2 _ rfl
            have h1 : (g2 : Int).tmod 2 = ((g2 % 2 : Nat) : Int) := by rw [Int.tmod_eq_emod_of_nonneg (by omega)]; omega
            obtain ⟨m2, hm2⟩ : ∃ x, g2 % 2 = x := ⟨_, rfl⟩
            rw [hm2] at h1 HWS
            have HM2 := Lib.hid hm2
            have h2 : IntKind.u32.wrap (m2 : Int) = (m2 : Int) := by rw [IntKind.wrap_u32]; omega
            have h3 : IntKind.i64.wrap (m2 : Int) = (m2 : Int) := IntWalk.i64_in _ ⟨by omega, by omega⟩
            clear hdy hqy HFL k0 hm2 hoff2
            go_wp2_with fail
            refine HWS.out.mono ?_
            rintro e w6 ⟨rfl, hlay6⟩
            have HFL2 := Lib.hid (layP_flush hlay6 hB (by omega) hbq)
            obtain ⟨dz, csz, cnz, Az, cfz, hdz, hqz, _⟩ := hlay6
            have k0 := hqz.cell 0 _ rfl
            clear hdz hqz HWS k2 h1 h2 h3
            go_wp2_with fail
            refine HFL2.out.mono ?_
            rintro e w7 ⟨rfl, hlay7⟩
            have HLZ := Lib.hid hlay7
            clear hlay7 HFL2 k0
            go_wp2_with fail
            go_ret
            refine .inr ⟨HZ.out, rfl, _, ?_, by rw [HG2.out]; exact HLZ.out⟩
            rw [HG2.out, ← HM2.out, ← HN1.out]
            have ho := HO.out
            rw [HG2.out] at ho
            exact LgS.anew hnow HSUM.out ho
  · obtain ⟨b, o, rfl, hc⟩ := hv
    have heq := HEQ.out w1 (.pointer (some ⟨b, o, none⟩))
    have HV := Lib.hid (show WrapsE w1 (.iface 86 (.pointer (some ⟨b, o, none⟩))) (fitsE area L) from ⟨b, o, rfl, hc⟩)
    have HZ := Lib.hid hz
    have HL1 := Lib.hid l1
    clear hc hz l1
    go_wp2_with fail
    go_ret
    exact .inl ⟨HZ.out, ⟨_, rfl, HV.out⟩, HL1.out⟩
end Go.Proofs.YtfplppldojlanaaDoor
