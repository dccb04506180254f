/- rabbetlaw21.same. (tools/gen_logq.py) -/
import Derived.Test.YtfplppldojlanaaDoorLogP
namespace Go.Proofs.YtfplppldojlanaaDoor
open Go.RowKit
set_option linter.unusedVariables false

/-- A call that tells whether. -/
def SamP (p : Prop) (w : World) (e : Ending) (w' : World) : Prop := ∃ r : Bool, (r = true ↔ p) ∧ e = .returned (.bool r) ∧ Later w w'
set_option maxRecDepth 100000 in
set_option maxHeartbeats 1000000 in
theorem logSame_any (A B2 : Option Addr) (n m c c2 : Nat) (ss ts : List SlB) (w : World) (hn : n = ss.length) (hm : m = ts.length) (hl : n ≤ 100000) (ha : Has w A (ss.map SlB.v)) (hb : Has w B2 (ts.map SlB.v)) (hea : ∀ s ∈ ss, Has w s.a (ints .u8 s.l) ∧ ∀ x ∈ s.l, x < 256) (heb : ∀ s ∈ ts, Has w s.a (ints .u8 s.l) ∧ ∀ x ∈ s.l, x < 256) :
    Calls Tryd.prog 18 #[.slice A n c, .slice B2 m c2] w (SamP (ss.map (·.l) = ts.map (·.l)) w) := by
  by_cases hnm : n = m
  · have hts : ts.length = ss.length := by omega
    subst hnm
    have HT := Lib.hid hts
    have HN := Lib.hid hn
    have HA := Lib.hid ha
    have HB := Lib.hid hb
    have HEA := Lib.hid hea
    have HEB := Lib.hid heb
    have HI0 := Lib.hid (show ∃ k : Nat, Value.int .i64 0 = .int .i64 k ∧ k ≤ n ∧ (∀ j (h : j < ss.length) (h2 : j < ts.length), j < k → ss[j].l = ts[j].l) ∧ Later w w from ⟨0, rfl, Nat.zero_le _, fun j _ _ h => absurd h (Nat.not_lt_zero _), Later.refl _⟩)
    clear hts hn hm ha hb hea heb
    go_enter Tryd.func18, Tryd.ntmps18
    go_wp2_with fail
    go_loopw [5] (fun iv wr => ∃ k : Nat, iv = .int .i64 k ∧ k ≤ n ∧ (∀ j (h : j < ss.length) (h2 : j < ts.length), j < k → ss[j].l = ts[j].l) ∧ Later w wr) (fun iv _ => n - (intOf iv).toNat)
    case atStart => exact HI0.out
    case round =>
      obtain ⟨k, rfl, hk, hall, lat⟩ := hrel
      have HALL := Lib.hid hall
      have HLAT := Lib.hid lat
      clear HI0 hall
      by_cases hlt : k < n
      · have hks : k < ss.length := by have := HN.out; omega
        have hkt : k < ts.length := by have := HN.out; have := HT.out; omega
        obtain ⟨b1, o1, hA, _, hc1⟩ := (HA.out.later lat).at_ (k := k) (by rw [List.length_map]; exact hks)
        obtain ⟨b2, o2, hB, _, hc2⟩ := (HB.out.later lat).at_ (k := k) (by rw [List.length_map]; exact hkt)
        subst hA hB
        rw [List.getElem_map] at hc1 hc2
        unfold SlB.v at hc1 hc2
        obtain ⟨hh1, hx1⟩ := HEA.out _ (List.getElem_mem hks)
        obtain ⟨hh2, hx2⟩ := HEB.out _ (List.getElem_mem hkt)
        have HYES := Lib.hid (fun (h : ss[k].l = ts[k].l) => show ∀ j (h : j < ss.length) (h2 : j < ts.length), j < k + 1 → ss[j].l = ts[j].l from fun j h1 h2 h3 => by
          rcases Nat.lt_or_ge j k with h4 | h4
          · exact HALL.out j h1 h2 h4
          · obtain rfl : j = k := by omega
            exact h)
        have HNO := Lib.hid (fun (h : ss[k].l ≠ ts[k].l) => show ¬ ss.map (·.l) = ts.map (·.l) from fun e => h (by
          have h1 := congrArg (fun l => l[k]?) e
          simp only [List.getElem?_map, List.getElem?_eq_getElem hks, List.getElem?_eq_getElem hkt, Option.map_some] at h1
          injection h1))
        obtain ⟨W9, hW9⟩ : ∃ x, x = wr := ⟨_, rfl⟩
        subst hW9
        have HH1 := Lib.hid (hh1.later lat)
        have HH2 := Lib.hid (hh2.later lat)
        generalize ss[k].a = sa at hc1 HH1
        generalize ts[k].a = sb at hc2 HH2
        generalize ss[k].c = ca at hc1
        generalize ts[k].c = cb at hc2
        generalize ss[k].l = l1 at hc1 HH1 HYES HNO hx1
        generalize ts[k].l = l2 at hc2 HH2 HYES HNO hx2
        obtain ⟨m1, hm1⟩ : ∃ x, x = l1.length := ⟨_, rfl⟩
        obtain ⟨m2, hm2⟩ : ∃ x, x = l2.length := ⟨_, rfl⟩
        rw [← hm1] at hc1
        rw [← hm2] at hc2
        have HM1 := Lib.hid hm1
        have HM2 := Lib.hid hm2
        have HC1 := Lib.hid hc1
        have HC2 := Lib.hid hc2
        have hkz : (k : Int) < (n : Int) := by omega
        by_cases he : l1 = l2
        · have HE := Lib.hid (show bstr l1 = bstr l2 from by rw [he])
          have HY := Lib.hid (HYES.out he)
          obtain ⟨s1, hs1⟩ : ∃ s, bstr l1 = s := ⟨_, rfl⟩
          have hs2 : bstr l2 = s1 := by rw [← HE.out]; exact hs1
          clear hc1 hc2 hm1 hm2 he lat hh1 hh2 hx1 hx2 HNO HYES
          go_upto_region 6 with fail
          go_cut [27] from 17 to 27 (fun v wx => v = .bool false ∧ Later W9 wx)
          case first => as_aux_lemma =>
            refine wp_region_K (S := fun W : World => Later W9 W) (R := Later) (fun _ => Later.refl _) (by kernel_rfl) ?_
            have hS : (fun W : World => Later W9 W) W9.drew := (Later.refl W9).drew
            refine wpAnyK_take Later.refl (fun _ _ _ h k => h.trans k) (fun _ _ h k => h.trans k) (i := 0) (oi := { dst := some 17, op := _, type := _, pos := _, after := _, guard := _ }) (v := ?_) rfl (by kernel_rfl) (by kernel_rfl) (by kernel_rfl) (fun _ _ _ h => h) (Or.inl (Or.inl ⟨by rfl, ?_⟩)) hS ?_
            rotate_left
            focus ((intro w hSw; (try dsimp only at hSw); skip; go_simp); (try with_reducible rfl))
            intro wq hwq
            replace hS := hS.trans hwq
            (try simp only [Act.put, List.setIfInBounds_toArray, List.set_cons_zero, List.set_cons_succ])
            clear hwq
            refine wpAnyK_take Later.refl (fun _ _ _ h k => h.trans k) (fun _ _ h k => h.trans k) (i := 1) (oi := { dst := some 18, op := _, type := _, pos := _, after := _, guard := _ }) (v := ?_) rfl (by kernel_rfl) (by kernel_rfl) (by kernel_rfl) (fun _ _ _ h => h) (Or.inl (Or.inl ⟨by rfl, ?_⟩)) hS ?_
            rotate_left
            focus ((intro w hSw; (try dsimp only at hSw); skip; go_simp); (try with_reducible rfl))
            intro wq hwq
            replace hS := hS.trans hwq
            (try simp only [Act.put, List.setIfInBounds_toArray, List.set_cons_zero, List.set_cons_succ])
            clear hwq
            refine wpAnyK_take Later.refl (fun _ _ _ h k => h.trans k) (fun _ _ h k => h.trans k) (i := 2) (oi := { dst := some 19, op := _, type := _, pos := _, after := _, guard := _ }) (v := ?_) rfl (by kernel_rfl) (by kernel_rfl) (by kernel_rfl) (fun _ _ _ h => h) (Or.inl (Or.inl ⟨by rfl, ?_⟩)) hS ?_
            rotate_left
            focus ((intro w hSw; (try dsimp only at hSw); skip; go_simp); (try with_reducible rfl))
            intro wq hwq
            replace hS := hS.trans hwq
            (try simp only [Act.put, List.setIfInBounds_toArray, List.set_cons_zero, List.set_cons_succ])
            clear hwq
            refine wpAnyK_take Later.refl (fun _ _ _ h k => h.trans k) (fun _ _ h k => h.trans k) (i := 3) (oi := { dst := some 20, op := _, type := _, pos := _, after := _, guard := _ }) (v := ?_) rfl (by kernel_rfl) (by kernel_rfl) (by kernel_rfl) (fun _ _ _ h => h) (Or.inl (Or.inl ⟨by rfl, ?_⟩)) hS ?_
            rotate_left
            focus ((intro w hSw; (try dsimp only at hSw); have e1 := hSw.cell HC1.out; go_simp); (try with_reducible rfl))
            intro wq hwq
            replace hS := hS.trans hwq
            (try simp only [Act.put, List.setIfInBounds_toArray, List.set_cons_zero, List.set_cons_succ])
            clear hwq
            refine wpAnyK_take Later.refl (fun _ _ _ h k => h.trans k) (fun _ _ h k => h.trans k) (i := 4) (oi := { dst := some 21, op := _, type := _, pos := _, after := _, guard := _ }) (v := ?_) rfl (by kernel_rfl) (by kernel_rfl) (by kernel_rfl) (fun _ _ _ h => h) (Or.inl (Or.inl ⟨by rfl, ?_⟩)) hS ?_
            rotate_left
            focus ((intro w hSw; (try dsimp only at hSw); have hv1 := conv_str sa m1 ca l1 HM1.out w w.heap.size ((HH1.out.later hSw).rd); go_simp); (try with_reducible rfl))
            intro wq hwq
            replace hS := hS.trans hwq
            (try simp only [Act.put, List.setIfInBounds_toArray, List.set_cons_zero, List.set_cons_succ])
            clear hwq
            refine wpAnyK_take Later.refl (fun _ _ _ h k => h.trans k) (fun _ _ h k => h.trans k) (i := 5) (oi := { dst := some 22, op := _, type := _, pos := _, after := _, guard := _ }) (v := ?_) rfl (by kernel_rfl) (by kernel_rfl) (by kernel_rfl) (fun _ _ _ h => h) (Or.inl (Or.inl ⟨by rfl, ?_⟩)) hS ?_
            rotate_left
            focus ((intro w hSw; (try dsimp only at hSw); skip; go_simp); (try with_reducible rfl))
            intro wq hwq
            replace hS := hS.trans hwq
            (try simp only [Act.put, List.setIfInBounds_toArray, List.set_cons_zero, List.set_cons_succ])
            clear hwq
            refine wpAnyK_take Later.refl (fun _ _ _ h k => h.trans k) (fun _ _ h k => h.trans k) (i := 6) (oi := { dst := some 23, op := _, type := _, pos := _, after := _, guard := _ }) (v := ?_) rfl (by kernel_rfl) (by kernel_rfl) (by kernel_rfl) (fun _ _ _ h => h) (Or.inl (Or.inl ⟨by rfl, ?_⟩)) hS ?_
            rotate_left
            focus ((intro w hSw; (try dsimp only at hSw); skip; go_simp); (try with_reducible rfl))
            intro wq hwq
            replace hS := hS.trans hwq
            (try simp only [Act.put, List.setIfInBounds_toArray, List.set_cons_zero, List.set_cons_succ])
            clear hwq
            refine wpAnyK_take Later.refl (fun _ _ _ h k => h.trans k) (fun _ _ h k => h.trans k) (i := 7) (oi := { dst := some 24, op := _, type := _, pos := _, after := _, guard := _ }) (v := ?_) rfl (by kernel_rfl) (by kernel_rfl) (by kernel_rfl) (fun _ _ _ h => h) (Or.inl (Or.inl ⟨by rfl, ?_⟩)) hS ?_
            rotate_left
            focus ((intro w hSw; (try dsimp only at hSw); skip; go_simp); (try with_reducible rfl))
            intro wq hwq
            replace hS := hS.trans hwq
            (try simp only [Act.put, List.setIfInBounds_toArray, List.set_cons_zero, List.set_cons_succ])
            clear hwq
            refine wpAnyK_take Later.refl (fun _ _ _ h k => h.trans k) (fun _ _ h k => h.trans k) (i := 8) (oi := { dst := some 25, op := _, type := _, pos := _, after := _, guard := _ }) (v := ?_) rfl (by kernel_rfl) (by kernel_rfl) (by kernel_rfl) (fun _ _ _ h => h) (Or.inl (Or.inl ⟨by rfl, ?_⟩)) hS ?_
            rotate_left
            focus ((intro w hSw; (try dsimp only at hSw); have e2 := hSw.cell HC2.out; go_simp); (try with_reducible rfl))
            intro wq hwq
            replace hS := hS.trans hwq
            (try simp only [Act.put, List.setIfInBounds_toArray, List.set_cons_zero, List.set_cons_succ])
            clear hwq
            refine wpAnyK_take Later.refl (fun _ _ _ h k => h.trans k) (fun _ _ h k => h.trans k) (i := 9) (oi := { dst := some 26, op := _, type := _, pos := _, after := _, guard := _ }) (v := ?_) rfl (by kernel_rfl) (by kernel_rfl) (by kernel_rfl) (fun _ _ _ h => h) (Or.inl (Or.inl ⟨by rfl, ?_⟩)) hS ?_
            rotate_left
            focus ((intro w hSw; (try dsimp only at hSw); have hv2 := conv_str sb m2 cb l2 HM2.out w w.heap.size ((HH2.out.later hSw).rd); go_simp); (try with_reducible rfl))
            intro wq hwq
            replace hS := hS.trans hwq
            (try simp only [Act.put, List.setIfInBounds_toArray, List.set_cons_zero, List.set_cons_succ])
            clear hwq
            refine wpAnyK_take Later.refl (fun _ _ _ h k => h.trans k) (fun _ _ h k => h.trans k) (i := 10) (oi := { dst := some 27, op := _, type := _, pos := _, after := _, guard := _ }) (v := ?_) rfl (by kernel_rfl) (by kernel_rfl) (by kernel_rfl) (fun _ _ _ h => h) (Or.inl (Or.inl ⟨by rfl, ?_⟩)) hS ?_
            rotate_left
            focus ((intro w hSw; (try dsimp only at hSw); skip; go_simp); (try with_reducible rfl))
            intro wq hwq
            replace hS := hS.trans hwq
            (try simp only [Act.put, List.setIfInBounds_toArray, List.set_cons_zero, List.set_cons_succ])
            clear hwq
            refine wpAnyK_done (by kernel_rfl) ?_ _
            have HS2 := Lib.hid hS
            clear hS
            go_wp2_with fail
            go_meet
            exact ⟨by simp, HS2.out⟩
          case rest =>
          obtain ⟨rfl, lx⟩ := hcut
          have HLX := Lib.hid (HLAT.out.trans lx)
          clear lx
          go_wp2_with fail
          go_roundw
          case rel => exact ⟨k + 1, by go_num, hlt, HY.out, HLX.out⟩
          case measure => simp [intOf]; omega
        · have hne : ((bstr l1).toList == (bstr l2).toList) = false := bstr_ne hx1 hx2 he
          have HX := Lib.hid (HNO.out he)
          clear hc1 hc2 hm1 hm2 he lat hh1 hh2 hx1 hx2 HNO HYES
          go_upto_region 6 with fail
          go_cut [27] from 17 to 27 (fun v wx => v = .bool true ∧ Later W9 wx)
          case first => as_aux_lemma =>
            refine wp_region_K (S := fun W : World => Later W9 W) (R := Later) (fun _ => Later.refl _) (by kernel_rfl) ?_
            have hS : (fun W : World => Later W9 W) W9.drew := (Later.refl W9).drew
            refine wpAnyK_take Later.refl (fun _ _ _ h k => h.trans k) (fun _ _ h k => h.trans k) (i := 0) (oi := { dst := some 17, op := _, type := _, pos := _, after := _, guard := _ }) (v := ?_) rfl (by kernel_rfl) (by kernel_rfl) (by kernel_rfl) (fun _ _ _ h => h) (Or.inl (Or.inl ⟨by rfl, ?_⟩)) hS ?_
            rotate_left
            focus ((intro w hSw; (try dsimp only at hSw); skip; go_simp); (try with_reducible rfl))
            intro wq hwq
            replace hS := hS.trans hwq
            (try simp only [Act.put, List.setIfInBounds_toArray, List.set_cons_zero, List.set_cons_succ])
            clear hwq
            refine wpAnyK_take Later.refl (fun _ _ _ h k => h.trans k) (fun _ _ h k => h.trans k) (i := 1) (oi := { dst := some 18, op := _, type := _, pos := _, after := _, guard := _ }) (v := ?_) rfl (by kernel_rfl) (by kernel_rfl) (by kernel_rfl) (fun _ _ _ h => h) (Or.inl (Or.inl ⟨by rfl, ?_⟩)) hS ?_
            rotate_left
            focus ((intro w hSw; (try dsimp only at hSw); skip; go_simp); (try with_reducible rfl))
            intro wq hwq
            replace hS := hS.trans hwq
            (try simp only [Act.put, List.setIfInBounds_toArray, List.set_cons_zero, List.set_cons_succ])
            clear hwq
            refine wpAnyK_take Later.refl (fun _ _ _ h k => h.trans k) (fun _ _ h k => h.trans k) (i := 2) (oi := { dst := some 19, op := _, type := _, pos := _, after := _, guard := _ }) (v := ?_) rfl (by kernel_rfl) (by kernel_rfl) (by kernel_rfl) (fun _ _ _ h => h) (Or.inl (Or.inl ⟨by rfl, ?_⟩)) hS ?_
            rotate_left
            focus ((intro w hSw; (try dsimp only at hSw); skip; go_simp); (try with_reducible rfl))
            intro wq hwq
            replace hS := hS.trans hwq
            (try simp only [Act.put, List.setIfInBounds_toArray, List.set_cons_zero, List.set_cons_succ])
            clear hwq
            refine wpAnyK_take Later.refl (fun _ _ _ h k => h.trans k) (fun _ _ h k => h.trans k) (i := 3) (oi := { dst := some 20, op := _, type := _, pos := _, after := _, guard := _ }) (v := ?_) rfl (by kernel_rfl) (by kernel_rfl) (by kernel_rfl) (fun _ _ _ h => h) (Or.inl (Or.inl ⟨by rfl, ?_⟩)) hS ?_
            rotate_left
            focus ((intro w hSw; (try dsimp only at hSw); have e1 := hSw.cell HC1.out; go_simp); (try with_reducible rfl))
            intro wq hwq
            replace hS := hS.trans hwq
            (try simp only [Act.put, List.setIfInBounds_toArray, List.set_cons_zero, List.set_cons_succ])
            clear hwq
            refine wpAnyK_take Later.refl (fun _ _ _ h k => h.trans k) (fun _ _ h k => h.trans k) (i := 4) (oi := { dst := some 21, op := _, type := _, pos := _, after := _, guard := _ }) (v := ?_) rfl (by kernel_rfl) (by kernel_rfl) (by kernel_rfl) (fun _ _ _ h => h) (Or.inl (Or.inl ⟨by rfl, ?_⟩)) hS ?_
            rotate_left
            focus ((intro w hSw; (try dsimp only at hSw); have hv1 := conv_str sa m1 ca l1 HM1.out w w.heap.size ((HH1.out.later hSw).rd); go_simp); (try with_reducible rfl))
            intro wq hwq
            replace hS := hS.trans hwq
            (try simp only [Act.put, List.setIfInBounds_toArray, List.set_cons_zero, List.set_cons_succ])
            clear hwq
            refine wpAnyK_take Later.refl (fun _ _ _ h k => h.trans k) (fun _ _ h k => h.trans k) (i := 5) (oi := { dst := some 22, op := _, type := _, pos := _, after := _, guard := _ }) (v := ?_) rfl (by kernel_rfl) (by kernel_rfl) (by kernel_rfl) (fun _ _ _ h => h) (Or.inl (Or.inl ⟨by rfl, ?_⟩)) hS ?_
            rotate_left
            focus ((intro w hSw; (try dsimp only at hSw); skip; go_simp); (try with_reducible rfl))
            intro wq hwq
            replace hS := hS.trans hwq
            (try simp only [Act.put, List.setIfInBounds_toArray, List.set_cons_zero, List.set_cons_succ])
            clear hwq
            refine wpAnyK_take Later.refl (fun _ _ _ h k => h.trans k) (fun _ _ h k => h.trans k) (i := 6) (oi := { dst := some 23, op := _, type := _, pos := _, after := _, guard := _ }) (v := ?_) rfl (by kernel_rfl) (by kernel_rfl) (by kernel_rfl) (fun _ _ _ h => h) (Or.inl (Or.inl ⟨by rfl, ?_⟩)) hS ?_
            rotate_left
            focus ((intro w hSw; (try dsimp only at hSw); skip; go_simp); (try with_reducible rfl))
            intro wq hwq
            replace hS := hS.trans hwq
            (try simp only [Act.put, List.setIfInBounds_toArray, List.set_cons_zero, List.set_cons_succ])
            clear hwq
            refine wpAnyK_take Later.refl (fun _ _ _ h k => h.trans k) (fun _ _ h k => h.trans k) (i := 7) (oi := { dst := some 24, op := _, type := _, pos := _, after := _, guard := _ }) (v := ?_) rfl (by kernel_rfl) (by kernel_rfl) (by kernel_rfl) (fun _ _ _ h => h) (Or.inl (Or.inl ⟨by rfl, ?_⟩)) hS ?_
            rotate_left
            focus ((intro w hSw; (try dsimp only at hSw); skip; go_simp); (try with_reducible rfl))
            intro wq hwq
            replace hS := hS.trans hwq
            (try simp only [Act.put, List.setIfInBounds_toArray, List.set_cons_zero, List.set_cons_succ])
            clear hwq
            refine wpAnyK_take Later.refl (fun _ _ _ h k => h.trans k) (fun _ _ h k => h.trans k) (i := 8) (oi := { dst := some 25, op := _, type := _, pos := _, after := _, guard := _ }) (v := ?_) rfl (by kernel_rfl) (by kernel_rfl) (by kernel_rfl) (fun _ _ _ h => h) (Or.inl (Or.inl ⟨by rfl, ?_⟩)) hS ?_
            rotate_left
            focus ((intro w hSw; (try dsimp only at hSw); have e2 := hSw.cell HC2.out; go_simp); (try with_reducible rfl))
            intro wq hwq
            replace hS := hS.trans hwq
            (try simp only [Act.put, List.setIfInBounds_toArray, List.set_cons_zero, List.set_cons_succ])
            clear hwq
            refine wpAnyK_take Later.refl (fun _ _ _ h k => h.trans k) (fun _ _ h k => h.trans k) (i := 9) (oi := { dst := some 26, op := _, type := _, pos := _, after := _, guard := _ }) (v := ?_) rfl (by kernel_rfl) (by kernel_rfl) (by kernel_rfl) (fun _ _ _ h => h) (Or.inl (Or.inl ⟨by rfl, ?_⟩)) hS ?_
            rotate_left
            focus ((intro w hSw; (try dsimp only at hSw); have hv2 := conv_str sb m2 cb l2 HM2.out w w.heap.size ((HH2.out.later hSw).rd); go_simp); (try with_reducible rfl))
            intro wq hwq
            replace hS := hS.trans hwq
            (try simp only [Act.put, List.setIfInBounds_toArray, List.set_cons_zero, List.set_cons_succ])
            clear hwq
            refine wpAnyK_take Later.refl (fun _ _ _ h k => h.trans k) (fun _ _ h k => h.trans k) (i := 10) (oi := { dst := some 27, op := _, type := _, pos := _, after := _, guard := _ }) (v := ?_) rfl (by kernel_rfl) (by kernel_rfl) (by kernel_rfl) (fun _ _ _ h => h) (Or.inl (Or.inl ⟨by rfl, ?_⟩)) hS ?_
            rotate_left
            focus ((intro w hSw; (try dsimp only at hSw); skip; go_simp); (try with_reducible rfl))
            intro wq hwq
            replace hS := hS.trans hwq
            (try simp only [Act.put, List.setIfInBounds_toArray, List.set_cons_zero, List.set_cons_succ])
            clear hwq
            refine wpAnyK_done (by kernel_rfl) ?_ _
            have HS2 := Lib.hid hS
            clear hS
            go_wp2_with fail
            go_meet
            exact ⟨by simp, HS2.out⟩
          case rest =>
          obtain ⟨rfl, lx⟩ := hcut
          have HLX := Lib.hid (HLAT.out.trans lx)
          clear lx
          go_wp2_with fail
          go_ret
          exact ⟨false, ⟨(fun h => by cases h), fun h => absurd h HX.out⟩, rfl, HLX.out⟩
      · have HX := Lib.hid (show ss.map (·.l) = ts.map (·.l) from by
          refine List.ext_getElem (by rw [List.length_map, List.length_map, HT.out]) fun j h1 h2 => ?_
          rw [List.getElem_map, List.getElem_map]
          exact HALL.out j (by simpa using h1) (by simpa using h2) (by have := HN.out; simp at h1; omega))
        have hkz : ¬ (k : Int) < (n : Int) := by omega
        clear lat
        go_wp2_with fail
        go_ret
        exact ⟨true, ⟨fun _ => HX.out, fun _ => rfl⟩, rfl, HLAT.out⟩
  · have hd : ((n : Int) != (m : Int)) = true := by simp; omega
    have HX := Lib.hid (show ¬ ss.map (·.l) = ts.map (·.l) from fun e => hnm (by have := congrArg List.length e; rw [List.length_map, List.length_map] at this; omega))
    clear hnm hn hm ha hb hea heb
    go_enter Tryd.func18, Tryd.ntmps18
    go_wp2_with fail
    go_ret
    exact ⟨false, ⟨(fun h => by cases h), fun h => absurd h HX.out⟩, rfl, Later.refl _⟩
end Go.Proofs.YtfplppldojlanaaDoor
