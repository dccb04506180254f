/- Package log: record. (tools/gen_logc.py) -/
import Derived.Test.YtfplppldojlanaaDoorLogB
namespace Go.Proofs.YtfplppldojlanaaDoor
open Go.RowKit
set_option linter.unusedVariables false

/-- Bytes in a block of bytes, from base on. -/
def RB (w : World) (base : Nat) (A : Option Addr) (l : List Nat) : Prop :=
  ∃ b o cs, A = some ⟨b, o, none⟩ ∧ base ≤ b ∧ w.heap[b]? = some (Obj.cells cs 5 (0, 0)) ∧ ∀ j u, (ints .u8 l)[j]? = some u → cs[o + j]? = some u
theorem RB.later {w w' : World} {base : Nat} {A : Option Addr} {l : List Nat} (h : RB w base A l) (k : Later w w') : RB w' base A l := by
  obtain ⟨b, o, cs, h1, h2, h3, h4⟩ := h
  exact ⟨b, o, cs, h1, h2, (Below.block k b (Array.getElem?_eq_some_iff.1 h3).1).trans h3, h4⟩
theorem RB.kd {w w' : World} {base : Nat} {A : Option Addr} {l : List Nat} (h : RB w base A l) (k : KD w w') : RB w' base A l := by
  obtain ⟨b, o, cs, h1, h2, h3, h4⟩ := h
  exact ⟨b, o, cs, h1, h2, (k.2.2.2.2 b cs _ (by decide) (by decide) (by decide) h3).trans h3, h4⟩
theorem RB.has {w : World} {base : Nat} {A : Option Addr} {l : List Nat} (h : RB w base A l) : Has w A (ints .u8 l) := by
  obtain ⟨b, o, cs, h1, h2, h3, h4⟩ := h
  refine .inr ⟨b, o, h1, (Array.getElem?_eq_some_iff.1 h3).1, fun j u hj => ?_⟩
  rw [cell_of_row w b (o + j) cs _ (0, 0) h3]
  exact h4 j u hj
theorem RB.of_own {w : World} {base g n c : Nat} {t : List Nat} (h : w.ownsRow base 5 1 (.slice (some ⟨g, 0, none⟩) n c) n (ints .u8 t)) (k : Nat) : RB w base (some ⟨g, k, none⟩) (t.drop k) := by
  rcases h.2 with ⟨h1, _⟩ | ⟨g', cap, cur, h1, h2, h3, h4, h5, h6, h7⟩
  · cases h1
  · injection h1 with h1 _ h8
    injection h1 with h1
    injection h1 with h1
    subst h1
    refine ⟨g, k, cur, rfl, h2, h3, fun j u hj => ?_⟩
    have hj' : (ints .u8 t)[k + j]? = some u := by
      unfold ints at hj ⊢
      rw [List.map_drop, List.getElem?_drop] at hj
      exact hj
    rw [← h7, List.getElem?_take] at hj'
    split at hj'
    · rw [Array.getElem?_toList] at hj'; exact hj'
    · cases hj'
/-- What record tells. -/
def RecP (o : Option (List Nat)) (a : Addr) (w : World) (e : Ending) (w' : World) : Prop :=
  ((∃ (r : List Nat) (A : Option Addr) (c : Nat), o = some r ∧ e = .returned (.tuple #[.slice A r.length c, .nilIface]) ∧ RB w' w.heap.size A r ∧ r.length ≤ 65536) ∨
   (o = none ∧ ∃ pb po, e = .returned (.tuple #[.slice none 0 0, .iface 86 (.pointer (some ⟨pb, po, none⟩))]) ∧ w'.cell? ⟨pb, po + 2, none⟩ = some (.iface 131 (.pointer (some a))))) ∧ Later w w'
theorem recL_none {gen seq : Nat} {A : List (List Nat)} (h : loadL gen A seq = none) : recL gen A seq = none := by unfold recL; rw [h]
theorem recL_some {gen seq : Nat} {A : List (List Nat)} {t : List Nat} (h : loadL gen A seq = some t) : recL gen A seq = if t.length < 4 then none else if 65536 < numH (t.take 4) ∨ A.length < seq + blkN (numH (t.take 4)) then none else
    match growL gen A seq (blkN (numH (t.take 4))) (blkN (numH (t.take 4))) 1 t with
    | none => none
    | some u => if u.length = 4 + numH (t.take 4) then some (u.drop 4) else none := by unfold recL; rw [h]; rfl
theorem loadL_len {gen seq : Nat} {A : List (List Nat)} {t : List Nat} (h : loadL gen A seq = some t) : t.length ≤ 110 := by
  unfold loadL at h
  rcases hA : A[seq]? with _ | b
  · rw [hA] at h; cases h
  · rw [hA] at h
    exact (takeT20_iff.1 h).1
theorem growL_go {gen seq n f k : Nat} {A : List (List Nat)} {t : List Nat} : growL gen A seq n (f + 1) k t = if k < n ∧ t.length = k * 110 then (match loadL gen A (seq + k) with | none => none | some more => growL gen A seq n f (k + 1) (t ++ more)) else some t := by rw [growL]; rfl
/-- Where record's loop stands. -/
def GrwI (gen : Nat) (Ar : List (List Nat)) (seq n : Nat) (G : Option (List Nat)) (W : World) (tv kv : Value) (wr : World) : Prop :=
  ∃ (k : Nat) (t : List Nat) (A : Option Addr) (c : Nat), tv = .slice A t.length c ∧ kv = .int .i64 k ∧ 1 ≤ k ∧ k ≤ n ∧ t.length ≤ 110 * k ∧ growL gen Ar seq n (n + 1 - k) k t = G ∧ wr.ownsRow W.heap.size 5 1 (.slice A t.length c) t.length (ints .u8 t) ∧ (A = none → c = 0) ∧ Later W wr
theorem GrwI.mk {gen : Nat} {Ar : List (List Nat)} {seq n : Nat} {G : Option (List Nat)} {W wr : World} (y : Int) (k : Nat) (t : List Nat) (A : Option Addr) (tn c : Nat) (hy : y = (k : Int)) (htn : tn = t.length) (h1 : 1 ≤ k) (h2 : k ≤ n) (h3 : t.length ≤ 110 * k) (h4 : growL gen Ar seq n (n + 1 - k) k t = G) (h5 : wr.ownsRow W.heap.size 5 1 (.slice A tn c) tn (ints .u8 t)) (h6 : A = none → c = 0) (L : Later W wr) : GrwI gen Ar seq n G W (.slice A tn c) (.int .i64 y) wr := by
  subst hy htn; exact ⟨k, t, A, c, rfl, rfl, h1, h2, h3, h4, h5, h6, L⟩
theorem ints_append (k : IntKind) (a b : List Nat) : ints k (a ++ b) = ints k a ++ ints k b := by unfold ints; rw [List.map_append]

set_option maxRecDepth 100000 in
set_option maxHeartbeats 4000000 in
theorem logRecord_any (base p gs gn B cs cn : Nat) (A : Option Addr) (cf : Nat) (d : D) (q area gen used seq : Nat) (a : Addr) (w : World) (h : DA w base p gs gn B cs cn A cf d) (hB : B ≤ 4000) (hq : LogBk w q p area gen used) (hf : FitsD B area) (hseq : seq < area) (hg : gen < 4294967296) (hs : S21 w a) :
    Calls Tryd.prog 35 #[lptr q, .int .i64 seq] w (RecP (recL gen (areaG area gen d.now) seq) a w) := by
  have hAl : (areaG area gen d.now).length = area := areaG_len (by rw [h.2.2.1.1]; have := hf.2.2; omega)
  have harea : area ≤ 1000 := by have := hf.2.1; omega
  have h256 : ∀ i t, loadL gen (areaG area gen d.now) i = some t → ∀ x ∈ t, x < 256 := by
    intro i t ht x hx
    unfold loadL at ht
    rcases hA : (areaG area gen d.now)[i]? with _ | b
    · rw [hA] at ht; cases ht
    · rw [hA] at ht
      have hb := (takeT20_iff.1 ht).2
      have hm : b ∈ d.now := List.mem_of_mem_drop (List.mem_of_mem_take (List.mem_of_getElem? hA))
      obtain ⟨j, hj, hjb⟩ := List.mem_iff_getElem.1 hm
      obtain ⟨v, _, hbv⟩ := h.2.2.1.cell j (by rw [← h.2.2.1.1]; exact hj)
      have hlt := hbv.2.1
      rw [hjb, hb] at hlt
      have hmem : x ∈ (tagB gen i t).drop 9 := List.mem_of_mem_take (by rw [tagB_load]; exact hx)
      exact hlt x (List.mem_of_mem_drop hmem)
  have HLOAD := Lib.hid (fun (W : World) (l : Later w W) (i : Nat) (hi : i < area) => logLoad_any base p gs gn B cs cn A cf d q area gen used i a W (h.later l) hB (hq.later l) hf hi hg (hs.later l))
  have HQ := Lib.hid hq
  have HS := Lib.hid hs
  have H256 := Lib.hid h256
  obtain ⟨Ar, hAr⟩ : ∃ x, areaG area gen d.now = x := ⟨_, rfl⟩
  rw [hAr] at HLOAD hAl H256 ⊢
  have HAL := Lib.hid hAl
  have hif : Tryd.prog.isIface 57 = true := by kernel_rfl
  have HEQ := Lib.hid (fun (w : World) (v : Value) => run_eql_iface_nil (P := Tryd.prog) (w := w) 57 hif 86 v)
  have HAT := Lib.hid (fun (s : ByteArray) (pl : Int) (W : World) => at_any s pl (.iface 131 (.pointer (some a))) (.pointer (some a)) W rfl)
  clear h hq hs h256 hAr hAl hif
  go_enter Tryd.func35, Tryd.ntmps35
  go_wp2_with fail
  refine (HLOAD.out w (Later.refl _) seq hseq).mono ?_
  rintro e w1 ⟨⟨t, A1, c1, ho, rfl, hown, hnil⟩ | ⟨ho, pb, po, rfl, hc⟩, l1⟩
  · have hrec := recL_some ho
    have hl110 := loadL_len ho
    have hx256 := H256.out _ _ ho
    have hcap := own_cap hown
    have HCM := Lib.hid (own_capmax hown)
    have HOWN := Lib.hid hown
    have HNIL := Lib.hid hnil
    have HL1 := Lib.hid l1
    by_cases h4 : t.length < 4
    · rw [if_pos h4] at hrec
      have HREC := Lib.hid hrec
      have hd : decide ((t.length : Int) < 4) = true := by rw [decide_eq_true_iff]; omega
      have e0 := (HS.out.later l1).whole
      clear hrec ho hown hnil l1 hl110 hx256 hcap h4
      go_wp2_with fail
      refine (HAT.out _ _ _).mono ?_
      rintro e w3 ⟨rfl, hw3⟩
      have HW3 := Lib.hid hw3
      clear hw3
      go_wp2_with fail
      go_ret2
      refine ⟨.inr ⟨HREC.out, w1.heap.size, 0, rfl, ?_⟩, HL1.out.trans (HW3.out ▸ Later.new _ _)⟩
      rw [← HW3.out]
      exact (Blk.new w1 _ 88 _ rfl).cell 2 _ rfl
    · rw [if_neg h4] at hrec
      have hd : decide ((t.length : Int) < 4) = false := by rw [decide_eq_false_iff_not]; omega
      obtain ⟨gb, rfl⟩ := own_some hown (by omega)
      have h4l : (t.take 4).length = 4 := by rw [List.length_take]; omega
      have hh := Has.own hown
      have HTK := Lib.hid (highTake_any (some ⟨gb, 0, none⟩) 4 c1 (t.take 4) w1 w1.heap.size h4l.symm (by have := hh.rd.take 4; unfold ints at this ⊢; rwa [← List.map_take] at this) (fun x hx => hx256 x (List.mem_of_mem_take hx)) (by omega))
      have hmlt : numH (t.take 4) < 4294967296 := by
        have := numH_lt t hx256 4 (by omega)
        simpa using this
      obtain ⟨m, hm⟩ : ∃ m, numH (t.take 4) = m := ⟨_, rfl⟩
      rw [hm] at HTK hmlt hrec
      have hw64 : IntKind.i64.wrap (m : Int) = (m : Int) := IntWalk.i64_in _ ⟨by omega, by omega⟩
      have hcc : (4 : Int) ≤ (c1 : Int) := by omega
      have HREC := Lib.hid hrec
      have HO := Lib.hid ho
      clear hrec ho hown hnil l1 hx256 hcap hh hm h4l
      go_wp2_with fail
      refine HTK.out.mono ?_
      rintro e w2 ⟨rfl, rfl⟩
      obtain ⟨W9, hW9⟩ : ∃ x, x = w1 := ⟨_, rfl⟩
      subst hW9
      have HLW := HL1
      clear HTK
      obtain ⟨nb, hnb⟩ : ∃ x, blkN m = x := ⟨_, rfl⟩
      have hnb1 : 1 ≤ nb := by rw [← hnb]; exact blkN_pos m
      have HNB := Lib.hid hnb
      obtain ⟨bad, hbad⟩ : ∃ b : Bool, b = decide (65536 < m ∨ area < seq + nb) := ⟨_, rfl⟩
      have HBAD := Lib.hid hbad
      clear hnb hbad
      go_upto_region 7 with fail
      go_cut [43] from 31 to 43 (fun v wx => v = .bool bad ∧ Later W9 wx)
      case first => as_aux_lemma =>
        by_cases hb : 65536 < m
        · have hd1 : decide ((65536 : Int) < (m : Int)) = true := by rw [decide_eq_true_iff]; omega
          have hd2 : decide (65536 < m) = true := by rw [decide_eq_true_iff]; omega
          have hv : bad = true := by rw [HBAD.out]; simp [hb]
          clear hb
          refine wp_region_K (S := fun W : World => Later W9 W) (R := Later) (fun _ => Later.refl _) (by kernel_rfl) ?_
          have hS : (fun W : World => Later W9 W) W9.drew := (Later.refl W9).drew
          refine wpAnyK_take Later.refl (fun _ _ _ h k => h.trans k) (fun _ _ h k => h.trans k) (i := 0) (oi := { dst := some 31, op := _, type := _, pos := _, after := _, guard := _ }) (v := ?_) rfl (by kernel_rfl) (by kernel_rfl) (by kernel_rfl) (fun _ _ _ h => h) (Or.inl (Or.inl ⟨by rfl, ?_⟩)) hS ?_
          rotate_left
          focus ((intro w hSw; (try dsimp only at hSw); skip; go_simp); (try with_reducible rfl))
          intro wq hwq
          replace hS := hS.trans hwq
          (try simp only [Act.put, List.setIfInBounds_toArray, List.set_cons_zero, List.set_cons_succ])
          clear hwq
          refine wpAnyK_take Later.refl (fun _ _ _ h k => h.trans k) (fun _ _ h k => h.trans k) (i := 1) (oi := { dst := some 32, op := _, type := _, pos := _, after := _, guard := _ }) (v := ?_) rfl (by kernel_rfl) (by kernel_rfl) (by kernel_rfl) (fun _ _ _ h => h) (Or.inl (Or.inl ⟨by rfl, ?_⟩)) hS ?_
          rotate_left
          focus ((intro w hSw; (try dsimp only at hSw); skip; go_simp); (try with_reducible rfl))
          intro wq hwq
          replace hS := hS.trans hwq
          (try simp only [Act.put, List.setIfInBounds_toArray, List.set_cons_zero, List.set_cons_succ])
          clear hwq
          refine wpAnyK_take Later.refl (fun _ _ _ h k => h.trans k) (fun _ _ h k => h.trans k) (i := 2) (oi := { dst := some 33, op := _, type := _, pos := _, after := _, guard := _ }) (v := ?_) rfl (by kernel_rfl) (by kernel_rfl) (by kernel_rfl) (fun _ _ _ h => h) (Or.inl (Or.inl ⟨by rfl, ?_⟩)) hS ?_
          rotate_left
          focus ((intro w hSw; (try dsimp only at hSw); skip; go_simp); (try with_reducible rfl))
          intro wq hwq
          replace hS := hS.trans hwq
          (try simp only [Act.put, List.setIfInBounds_toArray, List.set_cons_zero, List.set_cons_succ])
          clear hwq
          refine wpAnyK_take Later.refl (fun _ _ _ h k => h.trans k) (fun _ _ h k => h.trans k) (i := 3) (oi := { dst := some 34, op := _, type := _, pos := _, after := _, guard := _ }) (v := undef) rfl (by kernel_rfl) (by kernel_rfl) (by kernel_rfl) (fun _ _ _ h => h) (Or.inl (Or.inr ⟨by rfl, rfl⟩)) hS ?_
          intro wq hwq
          replace hS := hS.trans hwq
          (try simp only [Act.put, List.setIfInBounds_toArray, List.set_cons_zero, List.set_cons_succ])
          clear hwq
          refine wpAnyK_take Later.refl (fun _ _ _ h k => h.trans k) (fun _ _ h k => h.trans k) (i := 4) (oi := { dst := some 35, op := _, type := _, pos := _, after := _, guard := _ }) (v := undef) rfl (by kernel_rfl) (by kernel_rfl) (by kernel_rfl) (fun _ _ _ h => h) (Or.inl (Or.inr ⟨by rfl, rfl⟩)) hS ?_
          intro wq hwq
          replace hS := hS.trans hwq
          (try simp only [Act.put, List.setIfInBounds_toArray, List.set_cons_zero, List.set_cons_succ])
          clear hwq
          refine wpAnyK_take Later.refl (fun _ _ _ h k => h.trans k) (fun _ _ h k => h.trans k) (i := 5) (oi := { dst := some 36, op := _, type := _, pos := _, after := _, guard := _ }) (v := undef) rfl (by kernel_rfl) (by kernel_rfl) (by kernel_rfl) (fun _ _ _ h => h) (Or.inl (Or.inr ⟨by rfl, rfl⟩)) hS ?_
          intro wq hwq
          replace hS := hS.trans hwq
          (try simp only [Act.put, List.setIfInBounds_toArray, List.set_cons_zero, List.set_cons_succ])
          clear hwq
          refine wpAnyK_take Later.refl (fun _ _ _ h k => h.trans k) (fun _ _ h k => h.trans k) (i := 6) (oi := { dst := some 37, op := _, type := _, pos := _, after := _, guard := _ }) (v := undef) rfl (by kernel_rfl) (by kernel_rfl) (by kernel_rfl) (fun _ _ _ h => h) (Or.inl (Or.inr ⟨by rfl, rfl⟩)) hS ?_
          intro wq hwq
          replace hS := hS.trans hwq
          (try simp only [Act.put, List.setIfInBounds_toArray, List.set_cons_zero, List.set_cons_succ])
          clear hwq
          refine wpAnyK_take Later.refl (fun _ _ _ h k => h.trans k) (fun _ _ h k => h.trans k) (i := 7) (oi := { dst := some 38, op := _, type := _, pos := _, after := _, guard := _ }) (v := undef) rfl (by kernel_rfl) (by kernel_rfl) (by kernel_rfl) (fun _ _ _ h => h) (Or.inl (Or.inr ⟨by rfl, rfl⟩)) hS ?_
          intro wq hwq
          replace hS := hS.trans hwq
          (try simp only [Act.put, List.setIfInBounds_toArray, List.set_cons_zero, List.set_cons_succ])
          clear hwq
          refine wpAnyK_take Later.refl (fun _ _ _ h k => h.trans k) (fun _ _ h k => h.trans k) (i := 8) (oi := { dst := some 39, op := _, type := _, pos := _, after := _, guard := _ }) (v := undef) rfl (by kernel_rfl) (by kernel_rfl) (by kernel_rfl) (fun _ _ _ h => h) (Or.inl (Or.inr ⟨by rfl, rfl⟩)) hS ?_
          intro wq hwq
          replace hS := hS.trans hwq
          (try simp only [Act.put, List.setIfInBounds_toArray, List.set_cons_zero, List.set_cons_succ])
          clear hwq
          refine wpAnyK_take Later.refl (fun _ _ _ h k => h.trans k) (fun _ _ h k => h.trans k) (i := 9) (oi := { dst := some 40, op := _, type := _, pos := _, after := _, guard := _ }) (v := undef) rfl (by kernel_rfl) (by kernel_rfl) (by kernel_rfl) (fun _ _ _ h => h) (Or.inl (Or.inr ⟨by rfl, rfl⟩)) hS ?_
          intro wq hwq
          replace hS := hS.trans hwq
          (try simp only [Act.put, List.setIfInBounds_toArray, List.set_cons_zero, List.set_cons_succ])
          clear hwq
          refine wpAnyK_take Later.refl (fun _ _ _ h k => h.trans k) (fun _ _ h k => h.trans k) (i := 10) (oi := { dst := some 41, op := _, type := _, pos := _, after := _, guard := _ }) (v := undef) rfl (by kernel_rfl) (by kernel_rfl) (by kernel_rfl) (fun _ _ _ h => h) (Or.inl (Or.inr ⟨by rfl, rfl⟩)) hS ?_
          intro wq hwq
          replace hS := hS.trans hwq
          (try simp only [Act.put, List.setIfInBounds_toArray, List.set_cons_zero, List.set_cons_succ])
          clear hwq
          refine wpAnyK_take Later.refl (fun _ _ _ h k => h.trans k) (fun _ _ h k => h.trans k) (i := 11) (oi := { dst := some 42, op := _, type := _, pos := _, after := _, guard := _ }) (v := undef) rfl (by kernel_rfl) (by kernel_rfl) (by kernel_rfl) (fun _ _ _ h => h) (Or.inl (Or.inr ⟨by rfl, rfl⟩)) hS ?_
          intro wq hwq
          replace hS := hS.trans hwq
          (try simp only [Act.put, List.setIfInBounds_toArray, List.set_cons_zero, List.set_cons_succ])
          clear hwq
          refine wpAnyK_take Later.refl (fun _ _ _ h k => h.trans k) (fun _ _ h k => h.trans k) (i := 12) (oi := { dst := some 43, op := _, type := _, pos := _, after := _, guard := _ }) (v := ?_) rfl (by kernel_rfl) (by kernel_rfl) (by kernel_rfl) (fun _ _ _ h => h) (Or.inl (Or.inl ⟨by rfl, ?_⟩)) hS ?_
          rotate_left
          focus ((intro w hSw; (try dsimp only at hSw); skip; go_simp); (try with_reducible rfl))
          intro wq hwq
          replace hS := hS.trans hwq
          (try simp only [Act.put, List.setIfInBounds_toArray, List.set_cons_zero, List.set_cons_succ])
          clear hwq
          refine wpAnyK_done (by kernel_rfl) ?_ _
          have HS2 := Lib.hid hS
          clear hS
          go_wp2_with fail
          go_meet
          exact ⟨by rw [hv], HS2.out⟩
        · have hd1 : decide ((65536 : Int) < (m : Int)) = false := by rw [decide_eq_false_iff_not]; omega
          have hd2 : decide (65536 < m) = false := by rw [decide_eq_false_iff_not]; omega
          have HBLK := Lib.hid (fun (W : World) (l : Later W9 W) => show Calls Tryd.prog 37 #[.int .i64 m] W (fun e w' => e = .returned (.int .i64 ((nb : Nat) : Int)) ∧ Later W w') from (logBlocks_any m W (by omega)).mono fun e w' ⟨h1, h2⟩ => ⟨by rw [h1, HNB.out], h2 ▸ Later.refl _⟩)
          have hnb6 : nb ≤ 600 := by have := HNB.out; unfold blkN at this; omega
          have hws : IntKind.i64.wrap ((seq : Int) + (nb : Int)) = (seq : Int) + (nb : Int) := IntWalk.i64_in _ ⟨by omega, by omega⟩
          have hv : bad = decide ((area : Int) < (seq : Int) + (nb : Int)) := by
            rw [HBAD.out, Bool.eq_iff_iff, decide_eq_true_iff, decide_eq_true_iff]
            omega
          clear hb
          refine wp_region_K (S := fun W : World => Later W9 W) (R := Later) (fun _ => Later.refl _) (by kernel_rfl) ?_
          have hS : (fun W : World => Later W9 W) W9.drew := (Later.refl W9).drew
          refine wpAnyK_take Later.refl (fun _ _ _ h k => h.trans k) (fun _ _ h k => h.trans k) (i := 0) (oi := { dst := some 31, op := _, type := _, pos := _, after := _, guard := _ }) (v := ?_) rfl (by kernel_rfl) (by kernel_rfl) (by kernel_rfl) (fun _ _ _ h => h) (Or.inl (Or.inl ⟨by rfl, ?_⟩)) hS ?_
          rotate_left
          focus ((intro w hSw; (try dsimp only at hSw); skip; go_simp); (try with_reducible rfl))
          intro wq hwq
          replace hS := hS.trans hwq
          (try simp only [Act.put, List.setIfInBounds_toArray, List.set_cons_zero, List.set_cons_succ])
          clear hwq
          refine wpAnyK_take Later.refl (fun _ _ _ h k => h.trans k) (fun _ _ h k => h.trans k) (i := 1) (oi := { dst := some 32, op := _, type := _, pos := _, after := _, guard := _ }) (v := ?_) rfl (by kernel_rfl) (by kernel_rfl) (by kernel_rfl) (fun _ _ _ h => h) (Or.inl (Or.inl ⟨by rfl, ?_⟩)) hS ?_
          rotate_left
          focus ((intro w hSw; (try dsimp only at hSw); skip; go_simp); (try with_reducible rfl))
          intro wq hwq
          replace hS := hS.trans hwq
          (try simp only [Act.put, List.setIfInBounds_toArray, List.set_cons_zero, List.set_cons_succ])
          clear hwq
          refine wpAnyK_take Later.refl (fun _ _ _ h k => h.trans k) (fun _ _ h k => h.trans k) (i := 2) (oi := { dst := some 33, op := _, type := _, pos := _, after := _, guard := _ }) (v := ?_) rfl (by kernel_rfl) (by kernel_rfl) (by kernel_rfl) (fun _ _ _ h => h) (Or.inl (Or.inl ⟨by rfl, ?_⟩)) hS ?_
          rotate_left
          focus ((intro w hSw; (try dsimp only at hSw); skip; go_simp); (try with_reducible rfl))
          intro wq hwq
          replace hS := hS.trans hwq
          (try simp only [Act.put, List.setIfInBounds_toArray, List.set_cons_zero, List.set_cons_succ])
          clear hwq
          refine wpAnyK_take Later.refl (fun _ _ _ h k => h.trans k) (fun _ _ h k => h.trans k) (i := 3) (oi := { dst := some 34, op := _, type := _, pos := _, after := _, guard := _ }) (v := ?_) rfl (by kernel_rfl) (by kernel_rfl) (by kernel_rfl) (fun _ _ _ h => h) (Or.inl (Or.inl ⟨by rfl, ?_⟩)) hS ?_
          rotate_left
          focus ((intro w hSw; (try dsimp only at hSw); skip; go_simp); (try with_reducible rfl))
          intro wq hwq
          replace hS := hS.trans hwq
          (try simp only [Act.put, List.setIfInBounds_toArray, List.set_cons_zero, List.set_cons_succ])
          clear hwq
          refine wpAnyK_take Later.refl (fun _ _ _ h k => h.trans k) (fun _ _ h k => h.trans k) (i := 4) (oi := { dst := some 35, op := _, type := _, pos := _, after := _, guard := _ }) (v := ?_) rfl (by kernel_rfl) (by kernel_rfl) (by kernel_rfl) (fun _ _ _ h => h) (Or.inl (Or.inl ⟨by rfl, ?_⟩)) hS ?_
          rotate_left
          focus ((intro w hSw; (try dsimp only at hSw); skip; go_simp); (try with_reducible rfl))
          intro wq hwq
          replace hS := hS.trans hwq
          (try simp only [Act.put, List.setIfInBounds_toArray, List.set_cons_zero, List.set_cons_succ])
          clear hwq
          refine wpAnyK_take Later.refl (fun _ _ _ h k => h.trans k) (fun _ _ h k => h.trans k) (i := 5) (oi := { dst := some 36, op := _, type := _, pos := _, after := _, guard := _ }) (v := .int .i64 ((nb : Nat) : Int)) rfl (by kernel_rfl) (by kernel_rfl) (by kernel_rfl) (fun _ _ _ h => h) (Or.inr ⟨by rfl, 37, #[.int .i64 m], fun W hW => ⟨?_, HBLK.out W hW⟩⟩) hS ?_
          · first | rfl | (go_simp; done)
          intro wq hwq
          replace hS := hS.trans hwq
          (try simp only [Act.put, List.setIfInBounds_toArray, List.set_cons_zero, List.set_cons_succ])
          clear hwq
          refine wpAnyK_take Later.refl (fun _ _ _ h k => h.trans k) (fun _ _ h k => h.trans k) (i := 6) (oi := { dst := some 37, op := _, type := _, pos := _, after := _, guard := _ }) (v := ?_) rfl (by kernel_rfl) (by kernel_rfl) (by kernel_rfl) (fun _ _ _ h => h) (Or.inl (Or.inl ⟨by rfl, ?_⟩)) hS ?_
          rotate_left
          focus ((intro w hSw; (try dsimp only at hSw); skip; go_simp); (try with_reducible rfl))
          intro wq hwq
          replace hS := hS.trans hwq
          (try simp only [Act.put, List.setIfInBounds_toArray, List.set_cons_zero, List.set_cons_succ])
          clear hwq
          refine wpAnyK_take Later.refl (fun _ _ _ h k => h.trans k) (fun _ _ h k => h.trans k) (i := 7) (oi := { dst := some 38, op := _, type := _, pos := _, after := _, guard := _ }) (v := ?_) rfl (by kernel_rfl) (by kernel_rfl) (by kernel_rfl) (fun _ _ _ h => h) (Or.inl (Or.inl ⟨by rfl, ?_⟩)) hS ?_
          rotate_left
          focus ((intro w hSw; (try dsimp only at hSw); skip; go_simp); (try with_reducible rfl))
          intro wq hwq
          replace hS := hS.trans hwq
          (try simp only [Act.put, List.setIfInBounds_toArray, List.set_cons_zero, List.set_cons_succ])
          clear hwq
          refine wpAnyK_take Later.refl (fun _ _ _ h k => h.trans k) (fun _ _ h k => h.trans k) (i := 8) (oi := { dst := some 39, op := _, type := _, pos := _, after := _, guard := _ }) (v := ?_) rfl (by kernel_rfl) (by kernel_rfl) (by kernel_rfl) (fun _ _ _ h => h) (Or.inl (Or.inl ⟨by rfl, ?_⟩)) hS ?_
          rotate_left
          focus ((intro w hSw; (try dsimp only at hSw); have k1 := (HQ.out.later (HLW.out.trans hSw)).cell 1 _ rfl; go_simp); (try with_reducible rfl))
          intro wq hwq
          replace hS := hS.trans hwq
          (try simp only [Act.put, List.setIfInBounds_toArray, List.set_cons_zero, List.set_cons_succ])
          clear hwq
          refine wpAnyK_take Later.refl (fun _ _ _ h k => h.trans k) (fun _ _ h k => h.trans k) (i := 9) (oi := { dst := some 40, op := _, type := _, pos := _, after := _, guard := _ }) (v := ?_) rfl (by kernel_rfl) (by kernel_rfl) (by kernel_rfl) (fun _ _ _ h => h) (Or.inl (Or.inl ⟨by rfl, ?_⟩)) hS ?_
          rotate_left
          focus ((intro w hSw; (try dsimp only at hSw); skip; go_simp); (try with_reducible rfl))
          intro wq hwq
          replace hS := hS.trans hwq
          (try simp only [Act.put, List.setIfInBounds_toArray, List.set_cons_zero, List.set_cons_succ])
          clear hwq
          refine wpAnyK_take Later.refl (fun _ _ _ h k => h.trans k) (fun _ _ h k => h.trans k) (i := 10) (oi := { dst := some 41, op := _, type := _, pos := _, after := _, guard := _ }) (v := ?_) rfl (by kernel_rfl) (by kernel_rfl) (by kernel_rfl) (fun _ _ _ h => h) (Or.inl (Or.inl ⟨by rfl, ?_⟩)) hS ?_
          rotate_left
          focus ((intro w hSw; (try dsimp only at hSw); have k1 := (HQ.out.later (HLW.out.trans hSw)).cell 1 _ rfl; go_simp); (try with_reducible rfl))
          intro wq hwq
          replace hS := hS.trans hwq
          (try simp only [Act.put, List.setIfInBounds_toArray, List.set_cons_zero, List.set_cons_succ])
          clear hwq
          refine wpAnyK_take Later.refl (fun _ _ _ h k => h.trans k) (fun _ _ h k => h.trans k) (i := 11) (oi := { dst := some 42, op := _, type := _, pos := _, after := _, guard := _ }) (v := ?_) rfl (by kernel_rfl) (by kernel_rfl) (by kernel_rfl) (fun _ _ _ h => h) (Or.inl (Or.inl ⟨by rfl, ?_⟩)) hS ?_
          rotate_left
          focus ((intro w hSw; (try dsimp only at hSw); skip; go_simp); (try with_reducible rfl))
          intro wq hwq
          replace hS := hS.trans hwq
          (try simp only [Act.put, List.setIfInBounds_toArray, List.set_cons_zero, List.set_cons_succ])
          clear hwq
          refine wpAnyK_take Later.refl (fun _ _ _ h k => h.trans k) (fun _ _ h k => h.trans k) (i := 12) (oi := { dst := some 43, op := _, type := _, pos := _, after := _, guard := _ }) (v := ?_) rfl (by kernel_rfl) (by kernel_rfl) (by kernel_rfl) (fun _ _ _ h => h) (Or.inl (Or.inl ⟨by rfl, ?_⟩)) hS ?_
          rotate_left
          focus ((intro w hSw; (try dsimp only at hSw); skip; go_simp); (try with_reducible rfl))
          intro wq hwq
          replace hS := hS.trans hwq
          (try simp only [Act.put, List.setIfInBounds_toArray, List.set_cons_zero, List.set_cons_succ])
          clear hwq
          refine wpAnyK_done (by kernel_rfl) ?_ _
          have HS2 := Lib.hid hS
          clear hS
          go_wp2_with fail
          go_meet
          exact ⟨by rw [hv], HS2.out⟩
      case rest =>
      obtain ⟨rfl, lx⟩ := hcut
      obtain ⟨W8, hW8⟩ : ∃ x, x = wc := ⟨_, rfl⟩
      subst hW8
      have HLW := Lib.hid (HLW.out.trans lx)
      have HOWN := Lib.hid (own_later HOWN.out lx)
      have hrec := HREC.out
      rw [HAL.out, HNB.out] at hrec
      clear lx HL1 HREC
      cases bad with
      | true =>
        have hb := (of_decide_eq_true HBAD.out.symm)
        rw [if_pos hb] at hrec
        have HREC := Lib.hid hrec
        have e0 := (HS.out.later HLW.out).whole
        clear hrec hb HBAD
        go_wp2_with fail
        refine (HAT.out _ _ _).mono ?_
        rintro e w3 ⟨rfl, hw3⟩
        have HW3 := Lib.hid hw3
        clear hw3
        go_wp2_with fail
        go_ret2
        refine ⟨.inr ⟨HREC.out, W8.heap.size, 0, rfl, ?_⟩, HLW.out.trans (HW3.out ▸ Later.new _ _)⟩
        rw [← HW3.out]
        exact (Blk.new W8 _ 88 _ rfl).cell 2 _ rfl
      | false =>
        have hb : ¬ (65536 < m ∨ area < seq + nb) := of_decide_eq_false HBAD.out.symm
        rw [if_neg hb] at hrec
        have hm6 : m ≤ 65536 := by omega
        have hsn : seq + nb ≤ area := by omega
        have hnb6 : nb ≤ 600 := by have := HNB.out; unfold blkN at this; omega
        have HBLK := Lib.hid (fun (W : World) => logBlocks_any m W (by omega))
        obtain ⟨G, hG⟩ : ∃ x, growL gen Ar seq nb nb 1 t = x := ⟨_, rfl⟩
        rw [hG] at hrec
        have HREC := Lib.hid hrec
        have HI0 := Lib.hid (GrwI.mk (gen := gen) (Ar := Ar) (seq := seq) (n := nb) (G := G) (W := w) (wr := W8) 1 1 t (some ⟨gb, 0, none⟩) t.length c1 rfl rfl (Nat.le_refl _) hnb1 (by omega) (by rw [show nb + 1 - 1 = nb by omega]; exact hG) HOWN.out (fun h => by cases h) HLW.out)
        clear hrec hb HBAD hG HOWN HO HNIL HCM HLW
        go_wp2_with fail
        go_loopw [6, 9] (fun tv kv wr => GrwI gen Ar seq nb G w tv kv wr) (fun _ k _ => nb - (intOf k).toNat)
        case atStart => exact HI0.out
        case round =>
          obtain ⟨k, u, UA, uc, rfl, rfl, hk1, hkn, hul, hgr, hown, hnil, lat⟩ := hrel
          rw [show nb + 1 - k = (nb - k) + 1 by omega, growL_go] at hgr
          have HOWN := Lib.hid hown
          have HNIL := Lib.hid hnil
          have HLAT := Lib.hid lat
          have hBK := HBLK.out wr
          rw [HNB.out] at hBK
          have HBK := Lib.hid hBK
          have hwm : IntKind.i64.wrap ((k : Int) * 110) = (k : Int) * 110 := IntWalk.i64_in _ ⟨by omega, by omega⟩
          have hwk : IntKind.i64.wrap ((seq : Int) + (k : Int)) = (seq : Int) + (k : Int) := IntWalk.i64_in _ ⟨by omega, by omega⟩
          clear HI0 hown hnil lat hBK
          by_cases hgo : k < nb ∧ u.length = k * 110
          · rw [if_pos hgo] at hgr
            have hd1 : decide ((k : Int) < (nb : Int)) = true := by rw [decide_eq_true_iff]; omega
            have hd2 : decide (k < nb) = true := by rw [decide_eq_true_iff]; omega
            have hd3 : ((u.length : Int) == (k : Int) * 110) = true := by rw [beq_iff_eq]; omega
            have hk2 := hgo.1
            have HGR := Lib.hid hgr
            have HUL := Lib.hid hgo.2
            have HCAST := Lib.hid (show (seq : Int) + (k : Int) = ((seq + k : Nat) : Int) from by push_cast; rfl)
            clear hgo hgr
            go_wp2_with fail
            refine HBK.out.mono ?_
            rintro e w2 ⟨rfl, rfl⟩
            go_wp2_with fail
            rw [HCAST.out]
            refine (HLOAD.out wr HLAT.out (seq + k) (by omega)).mono ?_
            rintro e w4 ⟨⟨t2, A2, c2, ho2, rfl, hown2, hnil2⟩ | ⟨ho2, pb, po, rfl, hc⟩, l4⟩
            · have hgr := HGR.out
              rw [ho2] at hgr
              have hl2 := loadL_len ho2
              have HGR2 := Lib.hid (show growL gen Ar seq nb (nb - k) (k + 1) (u ++ t2) = G from hgr)
              have HL4 := Lib.hid (HLAT.out.trans l4)
              have HO4 := Lib.hid (own_later HOWN.out l4)
              have HT2 := Lib.hid (Has.own hown2)
              have hs4 := HL4.out.size
              have HNIL2 := Lib.hid hnil2
              clear hgr ho2 hown2 hnil2 l4 HGR HOWN HLAT
              go_wp2_with (at_builtin; go_loud (refine wpList_append_rd _ rfl (.tmp 71) (.tmp 72) 24 rfl w.heap.size 5 (.int .u8 0) 1 Tryd.underlying24 info_u8 rfl _ u.length (ints .u8 u) rfl HO4.out _ A2 t2.length c2 (ints .u8 t2) rfl HT2.out.rd (by rw [ints_length]) HNIL2.out (ints_one _ _) (by unfold maxLen; omega) (by omega) hs4 ?_); intro A5 c5 w6 o6 g6 b6 n6; have HO6 := Lib.hid o6; have HL6 := Lib.hid (Later.of (HL4.out.below.trans b6)); have HN6 := Lib.hid n6; clear o6 g6 b6 n6)
              go_roundw
              case rel => exact GrwI.mk _ (k + 1) (u ++ t2) _ _ _ (by omega) (by rw [List.length_append]) (by omega) (by omega) (by rw [List.length_append]; omega) (by rw [show nb + 1 - (k + 1) = nb - k by omega]; exact HGR2.out) (by rw [ints_append]; exact HO6.out) HN6.out HL6.out
              case measure => simp [intOf]; omega
            · have hgr := HGR.out
              rw [ho2] at hgr
              have hrec := HREC.out
              rw [← hgr] at hrec
              have HX := Lib.hid (show recL gen Ar seq = none from hrec)
              have heq := HEQ.out w4 (.pointer (some ⟨pb, po, none⟩))
              have HL4 := Lib.hid (HLAT.out.trans l4)
              have HC := Lib.hid hc
              clear hgr hrec ho2 l4 HGR hc
              go_wp2_with fail
              go_ret2
              exact ⟨.inr ⟨HX.out, pb, po, rfl, HC.out⟩, HL4.out⟩
          · rw [if_neg hgo] at hgr
            have hrec := HREC.out
            rw [← hgr] at hrec
            replace hrec : recL gen Ar seq = if u.length = 4 + m then some (u.drop 4) else none := hrec
            have hwm4 : IntKind.i64.wrap (4 + (m : Int)) = 4 + (m : Int) := IntWalk.i64_in _ ⟨by omega, by omega⟩
            have HRC := Lib.hid hrec
            have hseln : k < nb → ((u.length : Int) == (k : Int) * 110) = false := fun h => by
              rw [beq_eq_false_iff_ne]
              intro he
              exact hgo ⟨h, by omega⟩
            have hes : ((u.length : Int) != 4 + (m : Int)) = decide (u.length ≠ 4 + m) := by
              by_cases he : u.length = 4 + m
              · have : (u.length : Int) = 4 + (m : Int) := by omega
                simp [he]
              · have : ¬ (u.length : Int) = 4 + (m : Int) := by omega
                simp [he, this]
            have HES := Lib.hid hes
            have HSELN := Lib.hid hseln
            have hcap2 := own_cap HOWN.out
            have HOW2 := HOWN
            clear hgr hrec hgo hseln hes HREC HBLK
            have key : (k < nb) = (k < nb) := rfl
            have hd0 : decide ((k : Int) < (nb : Int)) = decide (k < nb) := by rw [Bool.eq_iff_iff, decide_eq_true_iff, decide_eq_true_iff]; omega
            obtain ⟨bl, hbl⟩ : ∃ b, decide (k < nb) = b := ⟨_, rfl⟩
            have hd1 : decide ((k : Int) < (nb : Int)) = bl := hd0.trans hbl
            have HB1 := Lib.hid hbl
            clear hd0 key
            by_cases hel : u.length = 4 + m
            · have HX := Lib.hid (show recL gen Ar seq = some (u.drop 4) from by rw [HRC.out, if_pos hel])
              have he := HES.out
              have hf2 : ((u.length : Int) != 4 + (m : Int)) = false := by rw [he]; simp [hel]
              obtain ⟨gu, rfl⟩ := own_some HOWN.out (by omega)
              have hdl : (u.drop 4).length = u.length - 4 := List.length_drop
              have HDL := Lib.hid hdl
              have hc4 : (4 : Int) ≤ (u.length : Int) := by omega
              have hc5 : (u.length : Int) ≤ (uc : Int) := by omega
              have HEL := Lib.hid hel
              by_cases huc : uc = 4
              · have hul4 : u.length = 4 := by omega
                have hnil4 : u.drop 4 = [] := List.eq_nil_of_length_eq_zero (by rw [hdl]; omega)
                have HRB := Lib.hid (show RB wr w.heap.size (some ⟨gu, 0, none⟩) (u.drop 4) from by
                  obtain ⟨b, o, cs', h1, h2, h3, h4⟩ := RB.of_own HOWN.out 0
                  injection h1 with h1
                  injection h1 with h1 h1'
                  subst h1
                  exact ⟨gu, 0, cs', rfl, h2, h3, fun j u' hj => by rw [hnil4] at hj; simp [ints] at hj⟩)
                have hm0 : m = 0 := by omega
                clear he hel hdl hnil4
                subst huc hm0
                cases bl with
                | true =>
                  have hs3 := HSELN.out (of_decide_eq_true HB1.out)
                  go_wp2_with fail
                  refine HBK.out.mono ?_
                  rintro e w2 ⟨rfl, rfl⟩
                  go_wp2_with fail
                  go_ret2
                  exact ⟨.inl ⟨u.drop 4, _, _, HX.out, by rw [HDL.out, hul4]; rfl, HRB.out, by rw [HDL.out]; omega⟩, HLAT.out⟩
                | false =>
                  go_wp2_with fail
                  refine HBK.out.mono ?_
                  rintro e w2 ⟨rfl, rfl⟩
                  go_wp2_with fail
                  go_ret2
                  exact ⟨.inl ⟨u.drop 4, _, _, HX.out, by rw [HDL.out, hul4]; rfl, HRB.out, by rw [HDL.out]; omega⟩, HLAT.out⟩
              · have HRB := Lib.hid (RB.of_own HOWN.out 4)
                have hucz : ¬ (uc : Int) - 4 = 0 := by omega
                have hucn : ¬ uc - 4 = 0 := by omega
                have hucl : 4 < uc := by omega
                clear he hel hdl
                cases bl with
                | true =>
                  have hs3 := HSELN.out (of_decide_eq_true HB1.out)
                  go_wp2_with fail
                  refine HBK.out.mono ?_
                  rintro e w2 ⟨rfl, rfl⟩
                  go_wp2_with fail
                  go_ret2
                  exact ⟨.inl ⟨u.drop 4, _, _, HX.out, by rw [HDL.out]; rfl, HRB.out, by rw [HDL.out]; have := HEL.out; omega⟩, HLAT.out⟩
                | false =>
                  go_wp2_with fail
                  refine HBK.out.mono ?_
                  rintro e w2 ⟨rfl, rfl⟩
                  go_wp2_with fail
                  go_ret2
                  exact ⟨.inl ⟨u.drop 4, _, _, HX.out, by rw [HDL.out]; rfl, HRB.out, by rw [HDL.out]; have := HEL.out; omega⟩, HLAT.out⟩
            · have HX := Lib.hid (show recL gen Ar seq = none from by rw [HRC.out, if_neg hel])
              have he := HES.out
              have hf2 : ((u.length : Int) != 4 + (m : Int)) = true := by rw [he]; simp [hel]
              have e0 := (HS.out.later HLAT.out).whole
              clear he hel
              cases bl with
              | true =>
                have hs3 := HSELN.out (of_decide_eq_true HB1.out)
                go_wp2_with fail
                refine HBK.out.mono ?_
                rintro e w2 ⟨rfl, rfl⟩
                go_wp2_with fail
                refine (HAT.out _ _ _).mono ?_
                rintro e w3 ⟨rfl, hw3⟩
                have HW3 := Lib.hid hw3
                clear hw3
                go_wp2_with fail
                go_ret2
                refine ⟨.inr ⟨HX.out, wr.heap.size, 0, rfl, ?_⟩, HLAT.out.trans (HW3.out ▸ Later.new _ _)⟩
                rw [← HW3.out]
                exact (Blk.new wr _ 88 _ rfl).cell 2 _ rfl
              | false =>
                go_wp2_with fail
                refine HBK.out.mono ?_
                rintro e w2 ⟨rfl, rfl⟩
                go_wp2_with fail
                refine (HAT.out _ _ _).mono ?_
                rintro e w3 ⟨rfl, hw3⟩
                have HW3 := Lib.hid hw3
                clear hw3
                go_wp2_with fail
                go_ret2
                refine ⟨.inr ⟨HX.out, wr.heap.size, 0, rfl, ?_⟩, HLAT.out.trans (HW3.out ▸ Later.new _ _)⟩
                rw [← HW3.out]
                exact (Blk.new wr _ 88 _ rfl).cell 2 _ rfl
  · have HX := Lib.hid (recL_none ho)
    have heq := HEQ.out w1 (.pointer (some ⟨pb, po, none⟩))
    have HC := Lib.hid hc
    have HL1 := Lib.hid l1
    clear ho hc l1
    go_wp2_with fail
    go_ret2
    exact ⟨.inr ⟨HX.out, pb, po, rfl, HC.out⟩, HL1.out⟩
end Go.Proofs.YtfplppldojlanaaDoor
