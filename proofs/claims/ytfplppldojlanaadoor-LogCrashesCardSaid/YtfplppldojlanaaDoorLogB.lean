/- Package log: slotGen, find, load. (tools/gen_logb.py) -/
import Derived.Test.YtfplppldojlanaaDoorLogA
import Derived.Test.YtfplppldojlanaaDoorTagC
import Derived.Test.YtfplppldojlanaaDoorKripke
namespace Go.Proofs.YtfplppldojlanaaDoor
open Go.RowKit
set_option linter.unusedVariables false

theorem slotG_no {s : Nat} {b : List Nat} (h : ¬ ((takeT20 (numH (b.take 4)) 4294967295 b).isSome = true ∧ numH (b.take 4) ≤ 4294967294 ∧ numH (b.take 4) % 2 = s)) : slotG s b = 0 := by
  unfold slotG; rw [if_neg h]
set_option maxRecDepth 100000 in
set_option maxHeartbeats 1000000 in
theorem slotGen_any (base p gs gn B cs cn : Nat) (A : Option Addr) (cf : Nat) (d : D) (s : Nat) (w : World) (h : DA w base p gs gn B cs cn A cf d) (hB : B ≤ 4000) (hs : s < B) (hs2 : s < 2) (h20 : S20 w) :
    Calls Tryd.prog 34 #[dptr p, .int .i64 s] w fun e w' => e = .returned (.int .u32 ((slotG s (d.now[s]'(by rw [h.2.2.1.1]; exact hs)) : Nat) : Int)) ∧ Later w w' := by
  have HR := Lib.hid (devRead_any base p gs gn B cs cn A cf d s w h hs hB)
  generalize d.now[s]'(by rw [h.2.2.1.1]; exact hs) = b at HR
  obtain ⟨rr, hrr⟩ : ∃ x, slotG s b = x := ⟨_, rfl⟩
  rw [hrr]
  have HRR := Lib.hid hrr
  clear hrr
  have H20 := Lib.hid h20
  clear h h20
  go_enter Tryd.func34, Tryd.ntmps34
  go_wp2_with fail
  refine HR.out.mono ?_
  rintro e w1 ⟨v, rfl, hbv, l1, -⟩
  have hb128 := hbv.1
  have h256 := hbv.2.1
  obtain ⟨bb, o, c, rfl, hc1, hc2, hh⟩ := hbv.has
  have h4 : (b.take 4).length = 4 := by rw [List.length_take]; omega
  have HTK := Lib.hid (highTake_any (some ⟨bb, o, none⟩) 4 c (b.take 4) w1 w1.heap.size h4.symm (by have := hh.rd.take 4; unfold ints at this ⊢; rwa [← List.map_take] at this) (fun x hx => h256 x (List.mem_of_mem_take hx)) (by omega))
  have hlt : numH (b.take 4) < 4294967296 := by
    have := numH_lt b h256 4 (by omega)
    simpa using this
  have HTT := Lib.hid (fun (g : Nat) (hg : g < 4294967296) => tagTake_any g 4294967295 (some ⟨bb, o, none⟩) 128 c b w1 hg (by decide) hb128.symm hh h256 (by omega) hc1 hc2 (H20.out.later l1))
  have HNO := Lib.hid (fun h => show rr = 0 from by rw [← HRR.out]; exact @slotG_no s b h)
  have HYES := Lib.hid (fun (h : (takeT20 (numH (b.take 4)) 4294967295 b).isSome = true ∧ numH (b.take 4) ≤ 4294967294 ∧ numH (b.take 4) % 2 = s) => show rr = numH (b.take 4) from by rw [← HRR.out]; unfold slotG; rw [if_pos h])
  obtain ⟨g, hg⟩ : ∃ g, numH (b.take 4) = g := ⟨_, rfl⟩
  rw [hg] at HTK hlt HNO HYES
  have HTT := Lib.hid (HTT.out g hlt)
  have hw32 : IntKind.u32.wrap (g : Int) = (g : Int) := by rw [IntKind.wrap_u32]; omega
  have hcc : (4 : Int) ≤ (c : Int) := by omega
  have HL1 := Lib.hid l1
  clear HR hh hg h4 h256 hb128 l1 HRR
  go_wp2_with fail
  refine HTK.out.mono ?_
  rintro e w2 ⟨rfl, rfl⟩
  go_wp2_with fail
  refine HTT.out.mono ?_
  rintro e w2 ⟨A2, c2, rfl, -, l2⟩
  have HL2 := Lib.hid (HL1.out.trans l2)
  obtain ⟨ok, hok⟩ : ∃ x, (takeT20 g 4294967295 b).isSome = x := ⟨_, rfl⟩
  rw [hok] at HNO HYES ⊢
  clear l2 HTK HTT HL1 hok
  have h1 : (g : Int).tmod 2 = ((g % 2 : Nat) : Int) := by rw [Int.tmod_eq_emod_of_nonneg (by omega)]; omega
  have hm := Nat.mod_two_eq_zero_or_one g
  cases ok with
  | false =>
    have HX := Lib.hid (HNO.out (fun h => by cases h.1))
    go_wp2_with fail
    go_ret
    rw [HX.out]
    exact ⟨rfl, HL2.out⟩
  | true =>
    by_cases hl : 4294967294 < g
    · have hd : decide ((4294967294 : Int) < (g : Int)) = true := by simp; omega
      have HX := Lib.hid (HNO.out (fun h => by have := h.2.1; omega))
      clear h1 hm hl
      go_wp2_with fail
      go_ret
      rw [HX.out]
      exact ⟨rfl, HL2.out⟩
    · have hd : decide ((4294967294 : Int) < (g : Int)) = false := by simp; omega
      obtain ⟨m2, hm2⟩ : ∃ x, g % 2 = x := ⟨_, rfl⟩
      rw [hm2] at h1 hm HNO HYES
      have h2 : IntKind.u32.wrap (m2 : Int) = (m2 : Int) := by rcases hm with rfl | rfl <;> rfl
      have h3 : IntKind.i64.wrap (m2 : Int) = (m2 : Int) := by rcases hm with rfl | rfl <;> rfl
      by_cases he : m2 = s
      · have hne : ((m2 : Int) != (s : Int)) = false := by simp [he]
        have HX := Lib.hid (HYES.out ⟨rfl, by omega, he⟩)
        clear hm hl hm2 he
        go_wp2_with fail
        go_ret
        rw [HX.out]
        exact ⟨rfl, HL2.out⟩
      · have hne : ((m2 : Int) != (s : Int)) = true := by simp; omega
        have HX := Lib.hid (HNO.out (fun h => he h.2.2))
        clear hm hl hm2 he
        go_wp2_with fail
        go_ret
        rw [HX.out]
        exact ⟨rfl, HL2.out⟩

/-- What find tells: s0, s1: the slots' generations. -/
def FindP (B : Nat) (area : Int) (p s0 s1 : Nat) (w : World) (e : Ending) (w' : World) : Prop :=
  ((¬ FitsD B area ∧ ∃ v, e = .returned (.tuple #[.pointer none, v]) ∧ WrapsE w' v 1) ∨
   (FitsD B area ∧ max s0 s1 = 0 ∧ ∃ v, e = .returned (.tuple #[.pointer none, v]) ∧ WrapsE w' v 2) ∨
   (FitsD B area ∧ 0 < max s0 s1 ∧ ∃ q a, e = .returned (.tuple #[lptr q, .nilIface]) ∧ area = ((a : Nat) : Int) ∧ LogBk w' q p a (max s0 s1) 0 ∧ w.heap.size ≤ q)) ∧ Later w w'

set_option maxRecDepth 100000 in
set_option maxHeartbeats 1000000 in
theorem logFind_nil (area : Int) (w : World) : Calls Tryd.prog 24 #[.pointer none, .int .i64 area] w fun e w' => (∃ v, e = .returned (.tuple #[.pointer none, v]) ∧ WrapsE w' v 1) ∧ Later w w' := by
  have HC := Lib.hid (logCheck_nil area w)
  go_enter Tryd.func24, Tryd.ntmps24
  go_wp2_with fail
  refine HC.out.mono ?_
  rintro e w1 ⟨⟨hf, -⟩ | ⟨-, v, rfl, hv⟩, l1⟩
  · exact hf.elim
  · obtain ⟨b, o, rfl, hc⟩ := hv
    have hif : Tryd.prog.isIface 57 = true := by kernel_rfl
    have heq := run_eql_iface_nil (P := Tryd.prog) (w := w1) 57 hif 86 (.pointer (some ⟨b, o, none⟩))
    have HV := Lib.hid (show WrapsE w1 (.iface 86 (.pointer (some ⟨b, o, none⟩))) 1 from ⟨b, o, rfl, hc⟩)
    have HL := Lib.hid l1
    clear hc l1 HC
    go_wp2_with fail
    go_ret2
    exact ⟨⟨_, rfl, HV.out⟩, HL.out⟩
set_option maxRecDepth 100000 in
set_option maxHeartbeats 1000000 in
theorem logFind_any (base p gs gn B cs cn : Nat) (A : Option Addr) (cf : Nat) (d : D) (area : Int) (b0 b1 : List Nat) (w : World) (h : DA w base p gs gn B cs cn A cf d) (hB : B ≤ 4000) (h0 : d.now[0]? = some b0) (h1 : FitsD B area → d.now[1]? = some b1) (h20 : S20 w) :
    Calls Tryd.prog 24 #[dptr p, .int .i64 area] w (FindP B area p (slotG 0 b0) (slotG 1 b1) w) := by
  have HC := Lib.hid (logCheck_any base p gs gn B cs cn A cf d area w h hB)
  have HS := Lib.hid (fun (W : World) (l : Later w W) (hf : FitsD B area) => show Calls Tryd.prog 34 #[dptr p, .int .i64 0] W (fun e w' => e = .returned (.int .u32 ((slotG 0 b0 : Nat) : Int)) ∧ Later W w') from by
    have hh := slotGen_any base p gs gn B cs cn A cf d 0 W (h.later l) hB (by have := hf.1; have := hf.2.2; omega) (by omega) (h20.later l)
    have hl : 0 < d.now.length := by rw [h.2.2.1.1]; have := hf.1; have := hf.2.2; omega
    rw [List.getElem?_eq_getElem hl] at h0
    injection h0 with h0
    rw [← h0]
    exact hh)
  have HT := Lib.hid (fun (W : World) (l : Later w W) (hf : FitsD B area) => show Calls Tryd.prog 34 #[dptr p, .int .i64 1] W (fun e w' => e = .returned (.int .u32 ((slotG 1 b1 : Nat) : Int)) ∧ Later W w') from by
    have hh := slotGen_any base p gs gn B cs cn A cf d 1 W (h.later l) hB (by have := hf.1; have := hf.2.2; omega) (by omega) (h20.later l)
    have hl : 1 < d.now.length := by rw [h.2.2.1.1]; have := hf.1; have := hf.2.2; omega
    have h1 := h1 hf
    rw [List.getElem?_eq_getElem hl] at h1
    injection h1 with h1
    rw [← h1]
    exact hh)
  generalize slotG 0 b0 = s0 at HS ⊢
  generalize slotG 1 b1 = s1 at HT ⊢
  have HE := Lib.hid (fun W => at_e ⟨#[115, 108, 111, 116, 115]⟩ 2 2 W)
  have HO := Lib.hid (fun W => of_some 2 W (by decide))
  clear h h0 h1 h20
  go_enter Tryd.func24, Tryd.ntmps24
  go_wp2_with fail
  refine HC.out.mono ?_
  rintro e w1 ⟨⟨hf, rfl⟩ | ⟨hf, v, rfl, hv⟩, l1⟩
  · have HL1 := Lib.hid l1
    have HF := Lib.hid hf
    clear hf l1 HC
    go_wp2_with fail
    refine (HS.out _ HL1.out HF.out).mono ?_
    rintro e w2 ⟨rfl, l2⟩
    have HL2 := Lib.hid (HL1.out.trans l2)
    clear l2 HL1
    go_wp2_with fail
    refine (HT.out _ HL2.out HF.out).mono ?_
    rintro e w3 ⟨rfl, l3⟩
    have HL3 := Lib.hid (HL2.out.trans l3)
    clear l3 HL2 HS HT
    obtain ⟨a, rfl⟩ : ∃ a : Nat, area = (a : Int) := ⟨area.toNat, by have := HF.out.1; omega⟩
    by_cases hlt : s0 < s1
    · have hm : max s0 s1 = s1 := by omega
      have hd : decide ((s0 : Int) < (s1 : Int)) = true := by rw [decide_eq_true_iff]; omega
      have hdn : decide (s0 < s1) = true := by rw [decide_eq_true_iff]; omega
      have HM := Lib.hid hm
      have HP := Lib.hid (show 0 < max s0 s1 from by omega)
      clear hm hlt
      go_wp2_with fail
      go_ret2
      refine ⟨.inr (.inr ⟨HF.out, HP.out, w3.heap.size, a, rfl, rfl, ?_, HL3.out.size⟩), HL3.out.trans (Later.new _ _)⟩
      rw [HM.out]
      exact Blk.new w3 _ _ _ rfl
    · have hm : max s0 s1 = s0 := by omega
      have hd : decide ((s0 : Int) < (s1 : Int)) = false := by rw [decide_eq_false_iff_not]; omega
      have hdn : decide (s0 < s1) = false := by rw [decide_eq_false_iff_not]; omega
      have HM := Lib.hid hm
      by_cases hz : 0 < s0
      · have hd2 : decide ((0 : Int) < (s0 : Int)) = true := by rw [decide_eq_true_iff]; omega
        have hd3 : decide (0 < s0) = true := by rw [decide_eq_true_iff]; omega
        have HP := Lib.hid (show 0 < max s0 s1 from by omega)
        clear hm hlt hz
        go_wp2_with fail
        go_ret2
        refine ⟨.inr (.inr ⟨HF.out, HP.out, w3.heap.size, a, rfl, rfl, ?_, HL3.out.size⟩), HL3.out.trans (Later.new _ _)⟩
        rw [HM.out]
        exact Blk.new w3 _ _ _ rfl
      · have hd2 : decide ((0 : Int) < (s0 : Int)) = false := by rw [decide_eq_false_iff_not]; omega
        have hd3 : decide (0 < s0) = false := by rw [decide_eq_false_iff_not]; omega
        have HZ := Lib.hid (show max s0 s1 = 0 from by omega)
        clear hm hlt hz
        go_wp2_with fail
        refine (HO.out _).mono ?_
        rintro e w4 ⟨rfl, rfl⟩
        go_wp2_with fail
        refine (HE.out _).mono ?_
        rintro e w5 ⟨v, rfl, hv, l5⟩
        have HV := Lib.hid hv
        have HL5 := Lib.hid (HL3.out.trans l5)
        clear hv l5
        go_wp2_with fail
        go_ret2
        exact ⟨.inr (.inl ⟨HF.out, HZ.out, v, rfl, HV.out⟩), HL5.out⟩
  · obtain ⟨b, o, rfl, hc⟩ := hv
    have hif : Tryd.prog.isIface 57 = true := by kernel_rfl
    have heq := run_eql_iface_nil (P := Tryd.prog) (w := w1) 57 hif 86 (.pointer (some ⟨b, o, none⟩))
    have HV := Lib.hid (show WrapsE w1 (.iface 86 (.pointer (some ⟨b, o, none⟩))) 1 from ⟨b, o, rfl, hc⟩)
    have HL := Lib.hid l1
    have HF := Lib.hid hf
    clear hc l1 HC hf
    go_wp2_with fail
    go_ret2
    exact ⟨.inl ⟨HF.out, _, rfl, HV.out⟩, HL.out⟩

/-- What load tells. -/
def LoadP (o : Option (List Nat)) (a : Addr) (w : World) (e : Ending) (w' : World) : Prop :=
  ((∃ (t : List Nat) (A : Option Addr) (c : Nat), o = some t ∧ e = .returned (.tuple #[.slice A t.length c, .nilIface]) ∧ w'.ownsRow w.heap.size 5 1 (.slice A t.length c) t.length (ints .u8 t) ∧ (A = none → c = 0)) ∨
   (o = none ∧ ∃ pb po, e = .returned (.tuple #[.slice none 0 0, .iface 86 (.pointer (some ⟨pb, po, none⟩))]) ∧ w'.cell? ⟨pb, po + 2, none⟩ = some (.iface 131 (.pointer (some a))))) ∧ Later w w'
set_option maxRecDepth 100000 in
set_option maxHeartbeats 1000000 in
theorem logLoad_any (base p gs gn B cs cn : Nat) (A : Option Addr) (cf : Nat) (d : D) (q area gen used seq : Nat) (a : Addr) (w : World) (h : DA w base p gs gn B cs cn A cf d) (hB : B ≤ 4000) (hq : LogBk w q p area gen used) (hf : FitsD B area) (hseq : seq < area) (hg : gen < 4294967296) (hs : S21 w a) :
    Calls Tryd.prog 52 #[lptr q, .int .i64 seq] w (LoadP (loadL gen (areaG area gen d.now) seq) a w) := by
  have hoff : offG area gen + seq < B := by have h1 := offG_le (area := area) (gen := gen) (n := B) (by have := hf.2.2; omega); omega
  have hnl : d.now.length = B := h.2.2.1.1
  have hO : loadL gen (areaG area gen d.now) seq = takeT20 gen seq (d.now[offG area gen + seq]'(by omega)) := by
    unfold loadL
    rw [areaG_at hseq, List.getElem?_eq_getElem (by omega)]
    rfl
  rw [hO]
  have HBLK := Lib.hid (fun (W : World) (l : Later w W) => show Calls Tryd.prog 40 #[lptr q, .int .u32 gen, .int .i64 seq] W (fun e w' => e = .returned (.int .i64 ((offG area gen + seq : Nat) : Int)) ∧ Later W w') from (logBlock_any q p area gen used gen seq W (hq.later l) (by have := hf.2.1; omega) (by have := hf.2.1; omega) hg).mono fun e w' ⟨h1, h2⟩ => ⟨h1, h2 ▸ Later.refl _⟩)
  have HREAD := Lib.hid (fun (W : World) (l : Later w W) => show Calls Tryd.prog 49 #[dptr p, .int .i64 ((offG area gen + seq : Nat) : Int)] W (ReadP (d.now[offG area gen + seq]'(by omega)) W) from devRead_any base p gs gn B cs cn A cf d (offG area gen + seq) W (h.later l) hoff hB)
  generalize d.now[offG area gen + seq]'(by omega) = b at HREAD ⊢
  have HQ := Lib.hid hq
  have HS := Lib.hid hs
  have hsq : seq < 4294967296 := by have := hf.2.1; omega
  have hw32 : IntKind.u32.wrap (seq : Int) = (seq : Int) := by rw [IntKind.wrap_u32]; omega
  clear h hq hs hO hnl hf
  go_enter Tryd.func52, Tryd.ntmps52
  go_upto_region 1 with fail
  go_cut [6, 7] from 9 to 23 (fun u1 u2 wx => ∃ v, u1 = v ∧ u2 = .bool true ∧ BV wx v b ∧ (∃ A c, v = .slice A 128 c) ∧ Later w wx)
  case first => as_aux_lemma =>
    refine wp_region_K (S := fun W : World => Later w W) (R := Later) (fun _ => Later.refl _) (by kernel_rfl) ?_
    have hS : (fun W : World => Later w W) w.drew := (Later.refl w).drew
    refine wpAnyK_take Later.refl (fun _ _ _ h k => h.trans k) (fun _ _ h k => h.trans k) (i := 0) (oi := { dst := some 10, op := _, type := _, pos := _, after := _, guard := _ }) (v := ?_) rfl (by kernel_rfl) (by kernel_rfl) (by kernel_rfl) (fun _ _ _ h => h) (Or.inl (Or.inl ⟨by rfl, ?_⟩)) hS ?_
    rotate_left
    focus ((intro w hSw; (try dsimp only at hSw); skip; go_simp); (try with_reducible rfl))
    intro wq hwq
    replace hS := hS.trans hwq
    (try simp only [Act.put, List.setIfInBounds_toArray, List.set_cons_zero, List.set_cons_succ])
    clear hwq
    refine wpAnyK_take Later.refl (fun _ _ _ h k => h.trans k) (fun _ _ h k => h.trans k) (i := 1) (oi := { dst := some 11, op := _, type := _, pos := _, after := _, guard := _ }) (v := ?_) rfl (by kernel_rfl) (by kernel_rfl) (by kernel_rfl) (fun _ _ _ h => h) (Or.inl (Or.inl ⟨by rfl, ?_⟩)) hS ?_
    rotate_left
    focus ((intro w hSw; (try dsimp only at hSw); have c0 := (HQ.out.later hSw).cell 0 _ rfl; have c2 := (HQ.out.later hSw).cell 2 _ rfl; go_simp); (try with_reducible rfl))
    intro wq hwq
    replace hS := hS.trans hwq
    (try simp only [Act.put, List.setIfInBounds_toArray, List.set_cons_zero, List.set_cons_succ])
    clear hwq
    refine wpAnyK_take Later.refl (fun _ _ _ h k => h.trans k) (fun _ _ h k => h.trans k) (i := 2) (oi := { dst := some 12, op := _, type := _, pos := _, after := _, guard := _ }) (v := ?_) rfl (by kernel_rfl) (by kernel_rfl) (by kernel_rfl) (fun _ _ _ h => h) (Or.inl (Or.inl ⟨by rfl, ?_⟩)) hS ?_
    rotate_left
    focus ((intro w hSw; (try dsimp only at hSw); skip; go_simp); (try with_reducible rfl))
    intro wq hwq
    replace hS := hS.trans hwq
    (try simp only [Act.put, List.setIfInBounds_toArray, List.set_cons_zero, List.set_cons_succ])
    clear hwq
    refine wpAnyK_take Later.refl (fun _ _ _ h k => h.trans k) (fun _ _ h k => h.trans k) (i := 3) (oi := { dst := some 13, op := _, type := _, pos := _, after := _, guard := _ }) (v := ?_) rfl (by kernel_rfl) (by kernel_rfl) (by kernel_rfl) (fun _ _ _ h => h) (Or.inl (Or.inl ⟨by rfl, ?_⟩)) hS ?_
    rotate_left
    focus ((intro w hSw; (try dsimp only at hSw); have c0 := (HQ.out.later hSw).cell 0 _ rfl; have c2 := (HQ.out.later hSw).cell 2 _ rfl; go_simp); (try with_reducible rfl))
    intro wq hwq
    replace hS := hS.trans hwq
    (try simp only [Act.put, List.setIfInBounds_toArray, List.set_cons_zero, List.set_cons_succ])
    clear hwq
    refine wpAnyK_take Later.refl (fun _ _ _ h k => h.trans k) (fun _ _ h k => h.trans k) (i := 4) (oi := { dst := some 14, op := _, type := _, pos := _, after := _, guard := _ }) (v := ?_) rfl (by kernel_rfl) (by kernel_rfl) (by kernel_rfl) (fun _ _ _ h => h) (Or.inl (Or.inl ⟨by rfl, ?_⟩)) hS ?_
    rotate_left
    focus ((intro w hSw; (try dsimp only at hSw); skip; go_simp); (try with_reducible rfl))
    intro wq hwq
    replace hS := hS.trans hwq
    (try simp only [Act.put, List.setIfInBounds_toArray, List.set_cons_zero, List.set_cons_succ])
    clear hwq
    refine wpAnyK_take Later.refl (fun _ _ _ h k => h.trans k) (fun _ _ h k => h.trans k) (i := 5) (oi := { dst := some 15, op := _, type := _, pos := _, after := _, guard := _ }) (v := ?_) rfl (by kernel_rfl) (by kernel_rfl) (by kernel_rfl) (fun _ _ _ h => h) (Or.inl (Or.inl ⟨by rfl, ?_⟩)) hS ?_
    rotate_left
    focus ((intro w hSw; (try dsimp only at hSw); skip; go_simp); (try with_reducible rfl))
    intro wq hwq
    replace hS := hS.trans hwq
    (try simp only [Act.put, List.setIfInBounds_toArray, List.set_cons_zero, List.set_cons_succ])
    clear hwq
    refine wpAnyK_take Later.refl (fun _ _ _ h k => h.trans k) (fun _ _ h k => h.trans k) (i := 6) (oi := { dst := some 16, op := _, type := _, pos := _, after := _, guard := _ }) (v := ?_) rfl (by kernel_rfl) (by kernel_rfl) (by kernel_rfl) (fun _ _ _ h => h) (Or.inl (Or.inl ⟨by rfl, ?_⟩)) hS ?_
    rotate_left
    focus ((intro w hSw; (try dsimp only at hSw); have c0 := (HQ.out.later hSw).cell 0 _ rfl; have c2 := (HQ.out.later hSw).cell 2 _ rfl; go_simp); (try with_reducible rfl))
    intro wq hwq
    replace hS := hS.trans hwq
    (try simp only [Act.put, List.setIfInBounds_toArray, List.set_cons_zero, List.set_cons_succ])
    clear hwq
    refine wpAnyK_take Later.refl (fun _ _ _ h k => h.trans k) (fun _ _ h k => h.trans k) (i := 7) (oi := { dst := some 17, op := _, type := _, pos := _, after := _, guard := _ }) (v := ?_) rfl (by kernel_rfl) (by kernel_rfl) (by kernel_rfl) (fun _ _ _ h => h) (Or.inl (Or.inl ⟨by rfl, ?_⟩)) hS ?_
    rotate_left
    focus ((intro w hSw; (try dsimp only at hSw); skip; go_simp); (try with_reducible rfl))
    intro wq hwq
    replace hS := hS.trans hwq
    (try simp only [Act.put, List.setIfInBounds_toArray, List.set_cons_zero, List.set_cons_succ])
    clear hwq
    refine wpAnyK_take Later.refl (fun _ _ _ h k => h.trans k) (fun _ _ h k => h.trans k) (i := 8) (oi := { dst := some 18, op := _, type := _, pos := _, after := _, guard := _ }) (v := ?_) rfl (by kernel_rfl) (by kernel_rfl) (by kernel_rfl) (fun _ _ _ h => h) (Or.inl (Or.inl ⟨by rfl, ?_⟩)) hS ?_
    rotate_left
    focus ((intro w hSw; (try dsimp only at hSw); have c0 := (HQ.out.later hSw).cell 0 _ rfl; have c2 := (HQ.out.later hSw).cell 2 _ rfl; go_simp); (try with_reducible rfl))
    intro wq hwq
    replace hS := hS.trans hwq
    (try simp only [Act.put, List.setIfInBounds_toArray, List.set_cons_zero, List.set_cons_succ])
    clear hwq
    refine wpAnyK_take Later.refl (fun _ _ _ h k => h.trans k) (fun _ _ h k => h.trans k) (i := 9) (oi := { dst := some 19, op := _, type := _, pos := _, after := _, guard := _ }) (v := ?_) rfl (by kernel_rfl) (by kernel_rfl) (by kernel_rfl) (fun _ _ _ h => h) (Or.inl (Or.inl ⟨by rfl, ?_⟩)) hS ?_
    rotate_left
    focus ((intro w hSw; (try dsimp only at hSw); skip; go_simp); (try with_reducible rfl))
    intro wq hwq
    replace hS := hS.trans hwq
    (try simp only [Act.put, List.setIfInBounds_toArray, List.set_cons_zero, List.set_cons_succ])
    clear hwq
    refine wpAnyK_take Later.refl (fun _ _ _ h k => h.trans k) (fun _ _ h k => h.trans k) (i := 10) (oi := { dst := some 20, op := _, type := _, pos := _, after := _, guard := _ }) (v := .int .i64 ((offG area gen + seq : Nat) : Int)) rfl (by kernel_rfl) (by kernel_rfl) (by kernel_rfl) (fun _ _ _ h => h) (Or.inr ⟨by rfl, 40, #[lptr q, .int .u32 gen, .int .i64 seq], fun W hW => ⟨?_, HBLK.out W hW⟩⟩) hS ?_
    · first | rfl | (go_simp; done)
    intro wq hwq
    replace hS := hS.trans hwq
    (try simp only [Act.put, List.setIfInBounds_toArray, List.set_cons_zero, List.set_cons_succ])
    clear hwq
    refine wpAnyK_all (rs := [11]) (by kernel_rfl) (by simp) (fun i hi => ?_)
    simp only [List.mem_cons, List.not_mem_nil, or_false] at hi
    subst hi
    refine stepK (o := { dst := some 21, op := _, type := _, pos := _, after := _, guard := _ }) rfl (fun K hK => ?_)
    go_simp
    refine (HREAD.out _ hS).mono ?_
    rintro e w7 ⟨v, rfl, hbv, l7, hvs⟩
    replace hS := hS.trans l7
    have HBV := Lib.hid hbv
    have HVS := Lib.hid hvs
    refine hK _ _ hS ?_
    clear hK hbv l7 hvs
    intro wz hwz
    replace hS := hS.trans hwz
    replace HBV := Lib.hid (HBV.out.later hwz)
    clear hwz
    (try simp only [Act.put, List.setIfInBounds_toArray, List.set_cons_zero, List.set_cons_succ])
    refine wpAnyK_take Later.refl (fun _ _ _ h k => h.trans k) (fun _ _ h k => h.trans k) (i := 12) (oi := { dst := some 9, op := _, type := _, pos := _, after := _, guard := _ }) (v := ?_) rfl (by kernel_rfl) (by kernel_rfl) (by kernel_rfl) (fun _ _ _ h => h) (Or.inl (Or.inl ⟨by rfl, ?_⟩)) hS ?_
    rotate_left
    focus ((intro w hSw; (try dsimp only at hSw); skip; go_simp); (try with_reducible rfl))
    intro wq hwq
    replace hS := hS.trans hwq
    replace HBV := Lib.hid (HBV.out.later hwq)
    (try simp only [Act.put, List.setIfInBounds_toArray, List.set_cons_zero, List.set_cons_succ])
    clear hwq
    refine wpAnyK_take Later.refl (fun _ _ _ h k => h.trans k) (fun _ _ h k => h.trans k) (i := 13) (oi := { dst := some 22, op := _, type := _, pos := _, after := _, guard := _ }) (v := ?_) rfl (by kernel_rfl) (by kernel_rfl) (by kernel_rfl) (fun _ _ _ h => h) (Or.inl (Or.inl ⟨by rfl, ?_⟩)) hS ?_
    rotate_left
    focus ((intro w hSw; (try dsimp only at hSw); skip; go_simp); (try with_reducible rfl))
    intro wq hwq
    replace hS := hS.trans hwq
    replace HBV := Lib.hid (HBV.out.later hwq)
    (try simp only [Act.put, List.setIfInBounds_toArray, List.set_cons_zero, List.set_cons_succ])
    clear hwq
    refine wpAnyK_take Later.refl (fun _ _ _ h k => h.trans k) (fun _ _ h k => h.trans k) (i := 14) (oi := { dst := some 23, op := _, type := _, pos := _, after := _, guard := _ }) (v := ?_) rfl (by kernel_rfl) (by kernel_rfl) (by kernel_rfl) (fun _ _ _ h => h) (Or.inl (Or.inl ⟨by rfl, ?_⟩)) hS ?_
    rotate_left
    focus ((intro w hSw; (try dsimp only at hSw); skip; go_simp); (try with_reducible rfl))
    intro wq hwq
    replace hS := hS.trans hwq
    replace HBV := Lib.hid (HBV.out.later hwq)
    (try simp only [Act.put, List.setIfInBounds_toArray, List.set_cons_zero, List.set_cons_succ])
    clear hwq
    refine wpAnyK_take Later.refl (fun _ _ _ h k => h.trans k) (fun _ _ h k => h.trans k) (i := 15) (oi := { dst := some 6, op := _, type := _, pos := _, after := _, guard := _ }) (v := ?_) rfl (by kernel_rfl) (by kernel_rfl) (by kernel_rfl) (fun _ _ _ h => h) (Or.inl (Or.inl ⟨by rfl, ?_⟩)) hS ?_
    rotate_left
    focus ((intro w hSw; (try dsimp only at hSw); skip; go_simp); (try with_reducible rfl))
    intro wq hwq
    replace hS := hS.trans hwq
    replace HBV := Lib.hid (HBV.out.later hwq)
    (try simp only [Act.put, List.setIfInBounds_toArray, List.set_cons_zero, List.set_cons_succ])
    clear hwq
    refine wpAnyK_take Later.refl (fun _ _ _ h k => h.trans k) (fun _ _ h k => h.trans k) (i := 16) (oi := { dst := some 7, op := _, type := _, pos := _, after := _, guard := _ }) (v := ?_) rfl (by kernel_rfl) (by kernel_rfl) (by kernel_rfl) (fun _ _ _ h => h) (Or.inl (Or.inl ⟨by rfl, ?_⟩)) hS ?_
    rotate_left
    focus ((intro w hSw; (try dsimp only at hSw); skip; go_simp); (try with_reducible rfl))
    intro wq hwq
    replace hS := hS.trans hwq
    replace HBV := Lib.hid (HBV.out.later hwq)
    (try simp only [Act.put, List.setIfInBounds_toArray, List.set_cons_zero, List.set_cons_succ])
    clear hwq
    refine wpAnyK_done (by kernel_rfl) ?_ _
    have HS2 := Lib.hid hS
    clear hS
    go_wp2_with fail
    go_meet
    exact ⟨v, rfl, rfl, HBV.out, HVS.out, HS2.out⟩
  case rest =>
  obtain ⟨v, rfl, rfl, hbv, -, lx⟩ := hcut
  have hb128 := hbv.1
  have h256 := hbv.2.1
  obtain ⟨bb, o, c, rfl, hc1, hc2, hh⟩ := hbv.has
  have HTT := Lib.hid (tagTake_own gen seq (some ⟨bb, o, none⟩) 128 c b wc hg hsq hb128.symm hh h256 (by omega) hc1 hc2 (HS.out.torn.later lx))
  have c2 := (HQ.out.later lx).cell 2 _ rfl
  have HLX := Lib.hid lx
  clear HBLK HREAD hbv hh h256 hb128 lx
  go_wp2_with fail
  refine HTT.out.mono ?_
  rintro e w2 ⟨⟨ho, rfl⟩ | ⟨t, A2, c2', ho, rfl, hown, hnil⟩, l2⟩
  · have HL2 := Lib.hid (HLX.out.trans l2)
    have HO := Lib.hid ho
    have e0 := (HS.out.later HL2.out).whole
    have HAT := Lib.hid (at_any ⟨#[98, 108, 111, 99, 107]⟩ seq (.iface 131 (.pointer (some a))) (.pointer (some a)) w2 rfl)
    clear l2 HTT c2 HLX ho
    go_wp2_with fail
    refine HAT.out.mono ?_
    rintro e w3 ⟨rfl, hw3⟩
    have HW3 := Lib.hid hw3
    clear hw3
    go_wp2_with fail
    go_ret2
    refine ⟨.inr ⟨HO.out, w2.heap.size, 0, rfl, ?_⟩, HL2.out.trans (HW3.out ▸ Later.new _ _)⟩
    rw [← HW3.out]
    exact (Blk.new w2 #[.string ⟨#[98, 108, 111, 99, 107]⟩, .int .i64 seq, .iface 131 (.pointer (some a))] 88 _ rfl).cell 2 _ rfl
  · have HL2 := Lib.hid (HLX.out.trans l2)
    have HO := Lib.hid ho
    have HOWN := Lib.hid (own_mono hown HLX.out.size)
    have HNIL := Lib.hid hnil
    clear l2 HTT c2 HLX ho hown hnil
    go_wp2_with fail
    go_ret2
    exact ⟨.inl ⟨t, A2, c2', HO.out, rfl, HOWN.out, HNIL.out⟩, HL2.out⟩
end Go.Proofs.YtfplppldojlanaaDoor
