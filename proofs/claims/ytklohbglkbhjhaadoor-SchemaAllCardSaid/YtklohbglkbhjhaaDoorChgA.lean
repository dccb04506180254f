/- schema.ByID: first, and its closure; schema.Fits, value.Fits. -/
import Derived.Test.YtklohbglkbhjhaaDoorSchF
import Derived.Test.YtklohbglkbhjhaaDoorMay3
import Derived.Test.YtklohbglkbhjhaaDoorKripke
namespace Go.Proofs.YtklohbglkbhjhaaDoor
open Go.RowKit
set_option linter.unusedVariables false

/-- The closure of ByID: is it of that ID? -/
theorem byID1_any (x : Int) (s : ByteArray) (t : Int) (id : Int) (q : Addr) (w : World) (hc : w.cell? q = some (.int .i64 id)) :
    Calls Tryd.prog 53 #[cagg x s t, .pointer (some q)] w fun e w' => e = .returned (.bool (decide (x = id))) ∧ Later w w' := by
  have l1 : Later w (w.alloc (.cells #[.int .i64 x, .string s, .int .i64 t] 59)) := Later.new w _
  have hc1 := l1.cell hc
  have HE := Lib.hid (show (x == id) = decide (x = id) from by by_cases h : x = id <;> simp [h])
  have HL := Lib.hid l1
  clear l1 hc
  go_enter Tryd.func53, Tryd.ntmps53
  go_wp2_with fail
  go_ret
  rw [HE.out]
  exact ⟨rfl, HL.out⟩

set_option maxRecDepth 100000 in
set_option maxHeartbeats 1000000 in
theorem firstByID_any (A : Option Addr) (n c : Nat) (last : Int) (l : List Col3) (id : Int) (q : Addr) (w : World) (hn : n = l.length) (hl : n ≤ 100000) (hr : Has w A (fc l)) (hc : CellIs w q (.int .i64 id)) :
    Calls Tryd.prog 51 #[.agg #[.slice A n c, .int .i64 last], .func (.func 53) #[] #[.pointer (some q)]] w (FoundP (findI l id) w) := by
  have eg : ∀ args w, (callFunc 53 args).run Tryd.prog w = .ok (.enter 53 args) w := enters_of Tryd.func53 (by kernel_rfl) rfl
  have l1 : Later w (w.alloc (.cells #[.slice A n c, .int .i64 last] 24)) := Later.new w _
  have HL1 := Lib.hid l1
  have HN := Lib.hid hn
  clear l1 hn
  go_enter Tryd.func51, Tryd.ntmps51
  go_wp2_with fail
  go_loopw [11] (fun i wr => ∃ k : Nat, k ≤ n ∧ i = .int .i64 k ∧ (∀ j (hj : j < l.length), j < k → decide (l[j].1 = id) = false) ∧ Later w wr) (fun i _ => n - (intOf i).toNat)
  case atStart => exact ⟨0, Nat.zero_le _, rfl, fun j hj h => absurd h (Nat.not_lt_zero _), HL1.out⟩
  case round =>
    obtain ⟨k, hk, rfl, hb, lat⟩ := hrel
    by_cases hlt : k < n
    · have hkl : k < l.length := by have := HN.out; omega
      obtain ⟨b, off, rfl, c0, c1, c2⟩ := (hr.later lat).col3 k hkl
      have HB := Lib.hid hb
      have HR := Lib.hid hr
      have HY := Lib.hid (fun (h : decide (l[k].1 = id) = true) => show findI l id = some k from firstAt hkl h hb)
      have HM := Lib.hid (fun (h : decide (l[k].1 = id) = false) => show ∀ j (hj : j < l.length), j < k + 1 → decide (l[j].1 = id) = false from fun j hj hjk => by
        rcases Nat.lt_or_ge j k with h1 | h1
        · exact hb j hj h1
        · obtain rfl : j = k := by omega
          exact h)
      generalize l[k].1 = x at c0 HY HM
      generalize l[k].2.1 = s at c1
      generalize l[k].2.2 = t at c2
      have l2 : Later w (wr.alloc (.cells #[.int .i64 x, .string s, .int .i64 t] 59)) := lat.alloc _
      have HC := Lib.hid (byID1_any x s t id q _ (hc.later l2).out)
      have HL2 := Lib.hid l2
      clear lat l2 hb hr hc
      go_wp2_with fail
      refine HC.out.mono ?_
      rintro e wX ⟨rfl, lX⟩
      have HLX := Lib.hid (HL2.out.trans lX)
      clear lX HC HL2
      by_cases he : x = id
      · have hd : decide (x = id) = true := by simpa using he
        have HF := Lib.hid (HY.out hd)
        clear he HY HM
        go_wp2_with fail
        go_ret2
        unfold FoundP
        rw [HF.out]
        exact ⟨rfl, HLX.out⟩
      · have hd : decide (x = id) = false := by simpa using he
        have HF := Lib.hid (HM.out hd)
        clear he HY HM
        go_wp2_with fail
        go_roundw
        case rel => exact ⟨k + 1, hlt, by go_num, HF.out, HLX.out⟩
        case measure => simp [intOf]; omega
    · have HF := Lib.hid (show findI l id = none from firstNo fun i hi => hb i hi (by have := HN.out; omega))
      clear hb
      go_wp2_with fail
      go_ret2
      unfold FoundP
      rw [HF.out]
      exact ⟨rfl, lat⟩

theorem byID_any (A : Option Addr) (n c : Nat) (last : Int) (l : List Col3) (id : Int) (w : World) (hn : n = l.length) (hl : n ≤ 100000) (hr : Has w A (fc l)) :
    Calls Tryd.prog 24 #[.agg #[.slice A n c, .int .i64 last], .int .i64 id] w (FoundP (findI l id) w) := by
  have hmf : ∀ (fn : Fn) (first cap : Array Value) (w : World), (Instr.makeFunc fn first cap).run Tryd.prog w = .ok (.func fn first cap) w := fun _ _ _ _ => rfl
  obtain ⟨w1, hw1⟩ : ∃ x : World, (w.alloc (.cells #[.slice A n c, .int .i64 last] 24)).alloc (.cells #[.int .i64 id] 3) = x := ⟨_, rfl⟩
  have l1 : Later w w1 := hw1 ▸ (Later.new w _).alloc _
  have b1 : CellIs w1 ⟨w.heap.size + 1, 0, none⟩ (.int .i64 id) := hw1 ▸ CellIs.new _ _ _ _ _ _ (by simp) rfl
  have b0 : CellIs w1 ⟨w.heap.size, 0, none⟩ (.slice A n c) := hw1 ▸ (CellIs.new w _ _ _ _ _ rfl rfl).later (Later.new _ _)
  have b2 : CellIs w1 ⟨w.heap.size, 1, none⟩ (.int .i64 last) := hw1 ▸ (CellIs.new w _ _ _ _ _ rfl rfl).later (Later.new _ _)
  have HC := Lib.hid (firstByID_any A n c last l id ⟨w.heap.size + 1, 0, none⟩ w1 hn hl (hr.later l1) b1)
  have HL := Lib.hid l1
  have HW := Lib.hid hw1
  clear l1 b1 hw1 hn hr
  have e0 := b0.out
  have e2 := b2.out
  clear b0 b2
  go_enter Tryd.func24, Tryd.ntmps24
  go_wp2_with fail
  rw [HW.out]
  refine HC.out.mono ?_
  rintro e w2 ⟨rfl, l2⟩
  have HL2 := Lib.hid (HL.out.trans l2)
  clear l2 HC
  go_wp2_with fail
  go_ret2
  exact ⟨rfl, HL2.out⟩
/-- May a value stand in a column of type t. -/
def FitsV (t : Int) (x : Val3) : Prop := (1 ≤ t ∧ t ≤ 4) ∧ (x.1 = 0 ∨ x.1 = t) ∧ MayV x.1 x.2.1 x.2.2.size

set_option maxRecDepth 100000 in
theorem valFits_any (t x0 x1 : Int) (x2 : ByteArray) (w : World) (hs : S3 w) :
    Calls Tryd.prog 54 #[.int .i64 t, .agg #[.int .i64 x0, .int .i64 x1, .string x2]] w (TellsP (FitsV t (x0, x1, x2)) w) := by
  obtain ⟨w1, hw1⟩ : ∃ w1 : World, w.alloc (.cells #[.int .i64 x0, .int .i64 x1, .string x2] 29) = w1 := ⟨_, rfl⟩
  have l1 : Later w w1 := hw1 ▸ Later.new w _
  have hb : Blk w1 w.heap.size #[.int .i64 x0, .int .i64 x1, .string x2] 29 := hw1 ▸ Blk.new w _ _ _ rfl
  have HC := Lib.hid (may3_any x0 x1 x2 w1 (hs.later l1))
  have HL1 := Lib.hid l1
  have HW := Lib.hid hw1
  clear hs l1 hw1
  by_cases h1 : t < 1
  · have HN := Lib.hid (show ¬ FitsV t (x0, x1, x2) from fun h => by have := h.1; omega)
    go_enter Tryd.func54, Tryd.ntmps54
    go_wp2_with fail
    go_ret
    rw [HW.out]
    exact TellsP.f HN.out HL1.out
  · by_cases h2 : 4 < t
    · have HN := Lib.hid (show ¬ FitsV t (x0, x1, x2) from fun h => by have := h.1; omega)
      go_enter Tryd.func54, Tryd.ntmps54
      go_wp2_with fail
      go_ret
      rw [HW.out]
      exact TellsP.f HN.out HL1.out
    · have a0 := hb.cell 0 _ rfl
      have a1 := hb.cell 1 _ rfl
      have a2 := hb.cell 2 _ rfl
      by_cases h3 : x0 = 0
      · have HY := Lib.hid (show MayV x0 x1 x2.size ↔ FitsV t (x0, x1, x2) from ⟨fun h => ⟨by omega, .inl h3, h⟩, fun h => h.2.2⟩)
        subst h3
        clear hb
        go_enter Tryd.func54, Tryd.ntmps54
        go_wp2_with fail
        rw [HW.out]
        refine HC.out.mono ?_
        rintro e w2 ⟨r, hr, rfl, l2⟩
        have HP := Lib.hid (show TellsP (FitsV t (0, x1, x2)) w (.returned (.bool r)) w2 from ⟨r, hr.trans HY.out, rfl, HL1.out.trans l2⟩)
        clear hr l2 HC HY a0 a1 a2
        go_wp2_with fail
        go_ret
        exact HP.out
      · have hx0 : (x0 == 0) = false := by simp [h3]
        by_cases h4 : x0 = t
        · have HY := Lib.hid (show MayV x0 x1 x2.size ↔ FitsV t (x0, x1, x2) from ⟨fun h => ⟨by omega, .inr h4, h⟩, fun h => h.2.2⟩)
          subst h4
          clear hb h3
          go_enter Tryd.func54, Tryd.ntmps54
          go_wp2_with fail
          rw [HW.out]
          refine HC.out.mono ?_
          rintro e w2 ⟨r, hr, rfl, l2⟩
          have HP := Lib.hid (show TellsP (FitsV x0 (x0, x1, x2)) w (.returned (.bool r)) w2 from ⟨r, hr.trans HY.out, rfl, HL1.out.trans l2⟩)
          clear hr l2 HC HY a0 a1 a2
          go_wp2_with fail
          go_ret
          exact HP.out
        · have HN := Lib.hid (show ¬ FitsV t (x0, x1, x2) from fun h => by have := h.2.1; dsimp only at this; omega)
          have hx1 : (x0 == t) = false := by simp [h4]
          clear hb h3 h4
          go_enter Tryd.func54, Tryd.ntmps54
          go_wp2_with fail
          go_ret
          rw [HW.out]
          exact TellsP.f HN.out HL1.out
/-- Is it a row of the columns? -/
def FitsL (xs : List Col3) (r : List Val3) : Prop := r.length = xs.length ∧ ∀ i (h : i < xs.length) (h' : i < r.length), FitsV xs[i].2.2 r[i]

set_option maxRecDepth 100000 in
set_option maxHeartbeats 2000000 in
theorem schFits_any (V R : Option Addr) (vn vc rn rc : Nat) (last : Int) (xs : List Col3) (r : List Val3) (w : World) (hs : S3 w) (hvn : vn = xs.length) (hrn : rn = r.length) (hl : vn ≤ 1000) (hl2 : rn ≤ 1000) (hV : Has w V (fc xs)) (hR : Has w R (fl r)) :
    Calls Tryd.prog 26 #[.agg #[.slice V vn vc, .int .i64 last], .slice R rn rc] w (TellsP (FitsL xs r) w) := by
  have HS := Lib.hid hs
  have HVN := Lib.hid hvn
  have HRN := Lib.hid hrn
  have HV := Lib.hid hV
  have HR := Lib.hid hR
  have HL1 := Lib.hid (Later.new w (.cells #[.slice V vn vc, .int .i64 last] 24))
  clear hs hV hR
  by_cases hne : rn = vn
  · have hnn : ((rn : Int) != (vn : Int)) = false := by simp [hne]
    clear hvn hrn
    go_enter Tryd.func26, Tryd.ntmps26
    go_wp2_with fail
    go_loopw [16] (fun i wr => ∃ k : Nat, k ≤ vn ∧ i = .int .i64 k ∧ (∀ j (h : j < xs.length) (h' : j < r.length), j < k → FitsV xs[j].2.2 r[j]) ∧ Later w wr) (fun i _ => vn - (intOf i).toNat)
    case atStart => exact ⟨0, Nat.zero_le _, rfl, fun j h h' hj => absurd hj (Nat.not_lt_zero _), HL1.out⟩
    case round =>
      obtain ⟨k, hk, rfl, hall, lat⟩ := hrel
      have HALL := Lib.hid hall
      clear hall
      by_cases hlt : k < vn
      · have hkx : k < xs.length := by have := HVN.out; omega
        have hkr : k < r.length := by have := HRN.out; omega
        obtain ⟨vb, vo, rfl, c0, c1, c2⟩ := (HV.out.later lat).col3 k hkx
        obtain ⟨b, off, rfl, u0, u1, u2⟩ := (HR.out.later lat).val3 k hkr
        have HST := Lib.hid (fun (h : FitsV xs[k].2.2 r[k]) => show ∀ j (h : j < xs.length) (h' : j < r.length), j < k + 1 → FitsV xs[j].2.2 r[j] from fun j h1 h2 hj => by
          rcases Nat.lt_or_ge j k with h3 | h3
          · exact HALL.out j h1 h2 h3
          · obtain rfl : j = k := by omega
            exact h)
        have HNO := Lib.hid (fun (h : ¬ FitsV xs[k].2.2 r[k]) => show ¬ FitsL xs r from fun hf => h (hf.2 k hkx hkr))
        generalize xs[k].1 = cid at c0
        generalize xs[k].2.1 = cnm at c1
        generalize xs[k].2.2 = ty at c2 HST HNO
        generalize r[k] = x at u0 u1 u2 HST HNO
        obtain ⟨x0, x1, x2⟩ := x
        dsimp only at u0 u1 u2
        obtain ⟨g, hg⟩ : ∃ x, wr.heap.size = x := ⟨_, rfl⟩
        obtain ⟨wa, hwa⟩ : ∃ x, wr.alloc (.cells #[.int .i64 cid, .string cnm, .int .i64 ty] 59) = x := ⟨_, rfl⟩
        have la : Later wr wa := hwa ▸ Later.new _ _
        have hba : Blk wa g #[.int .i64 cid, .string cnm, .int .i64 ty] 59 := hwa ▸ Blk.new wr _ _ _ hg.symm
        have HLA := Lib.hid (lat.trans la)
        have e2 := hba.cell 2 _ rfl
        have v0 := la.cell u0
        have v1 := la.cell u1
        have v2 := la.cell u2
        have HWA := Lib.hid hwa
        have hkr2 : (k : Int) < (rn : Int) := by omega
        clear la hba lat u0 u1 u2 hwa
        go_wp2_with fail
        rw [HWA.out]
        clear c0 c1 c2
        refine wp_region_K (S := fun W : World => W.cell? ⟨g, 2, none⟩ = some (.int .i64 ty) ∧ W.cell? ⟨b, off + k * 3, none⟩ = some (.int .i64 x0) ∧ W.cell? ⟨b, off + k * 3 + 1, none⟩ = some (.int .i64 x1) ∧ W.cell? ⟨b, off + k * 3 + 2, none⟩ = some (.string x2)) (R := fun a b => a = b) (fun _ => rfl) (by kernel_rfl) ?_
        obtain ⟨wd, hwd⟩ : ∃ x, wa.drew = x := ⟨_, rfl⟩
        have ld : Later wa wd := hwd ▸ (Later.refl wa).drew
        have hS : (fun W : World => W.cell? ⟨g, 2, none⟩ = some (.int .i64 ty) ∧ W.cell? ⟨b, off + k * 3, none⟩ = some (.int .i64 x0) ∧ W.cell? ⟨b, off + k * 3 + 1, none⟩ = some (.int .i64 x1) ∧ W.cell? ⟨b, off + k * 3 + 2, none⟩ = some (.string x2)) wd := ⟨ld.cell e2, ld.cell v0, ld.cell v1, ld.cell v2⟩
        rw [hwd]
        have HLD := Lib.hid (HLA.out.trans ld)
        have HC := Lib.hid (valFits_any ty x0 x1 x2 wd (HS.out.later HLD.out))
        clear ld hwd e2 v0 v1 v2 hg HWA
        refine wpAnyK_take (fun _ => rfl) (fun _ _ _ h k => h.trans k) (fun _ _ h k => k ▸ h) (i := 0) (oi := { dst := some 21, op := _, type := _, pos := _, after := _, guard := _ }) (v := ?_) rfl (by kernel_rfl) (by kernel_rfl) (by kernel_rfl) (fun _ _ _ h => h) (Or.inl (Or.inl ⟨by rfl, ?_⟩)) hS ?_
        rotate_left
        focus ((intro w hSw; (try dsimp only at hSw); obtain ⟨d0, d1, d2, d3⟩ := hSw; go_simp); (try with_reducible rfl))
        intro wq hwq
        subst hwq
        (try simp only [Act.put, List.setIfInBounds_toArray, List.set_cons_zero, List.set_cons_succ])
        refine wpAnyK_take (fun _ => rfl) (fun _ _ _ h k => h.trans k) (fun _ _ h k => k ▸ h) (i := 1) (oi := { dst := some 22, op := _, type := _, pos := _, after := _, guard := _ }) (v := ?_) rfl (by kernel_rfl) (by kernel_rfl) (by kernel_rfl) (fun _ _ _ h => h) (Or.inl (Or.inl ⟨by rfl, ?_⟩)) hS ?_
        rotate_left
        focus ((intro w hSw; (try dsimp only at hSw); obtain ⟨d0, d1, d2, d3⟩ := hSw; go_simp); (try with_reducible rfl))
        intro wq hwq
        subst hwq
        (try simp only [Act.put, List.setIfInBounds_toArray, List.set_cons_zero, List.set_cons_succ])
        refine wpAnyK_take (fun _ => rfl) (fun _ _ _ h k => h.trans k) (fun _ _ h k => k ▸ h) (i := 2) (oi := { dst := some 23, op := _, type := _, pos := _, after := _, guard := _ }) (v := ?_) rfl (by kernel_rfl) (by kernel_rfl) (by kernel_rfl) (fun _ _ _ h => h) (Or.inl (Or.inl ⟨by rfl, ?_⟩)) hS ?_
        rotate_left
        focus ((intro w hSw; (try dsimp only at hSw); obtain ⟨d0, d1, d2, d3⟩ := hSw; go_simp); (try with_reducible rfl))
        intro wq hwq
        subst hwq
        (try simp only [Act.put, List.setIfInBounds_toArray, List.set_cons_zero, List.set_cons_succ])
        refine wpAnyK_take (fun _ => rfl) (fun _ _ _ h k => h.trans k) (fun _ _ h k => k ▸ h) (i := 3) (oi := { dst := some 24, op := _, type := _, pos := _, after := _, guard := _ }) (v := ?_) rfl (by kernel_rfl) (by kernel_rfl) (by kernel_rfl) (fun _ _ _ h => h) (Or.inl (Or.inl ⟨by rfl, ?_⟩)) hS ?_
        rotate_left
        focus ((intro w hSw; (try dsimp only at hSw); obtain ⟨d0, d1, d2, d3⟩ := hSw; go_simp); (try with_reducible rfl))
        intro wq hwq
        subst hwq
        (try simp only [Act.put, List.setIfInBounds_toArray, List.set_cons_zero, List.set_cons_succ])
        refine wpAnyK_take (fun _ => rfl) (fun _ _ _ h k => h.trans k) (fun _ _ h k => k ▸ h) (i := 4) (oi := { dst := some 25, op := _, type := _, pos := _, after := _, guard := _ }) (v := ?_) rfl (by kernel_rfl) (by kernel_rfl) (by kernel_rfl) (fun _ _ _ h => h) (Or.inl (Or.inl ⟨by rfl, ?_⟩)) hS ?_
        rotate_left
        focus ((intro w hSw; (try dsimp only at hSw); obtain ⟨d0, d1, d2, d3⟩ := hSw; go_simp); (try with_reducible rfl))
        intro wq hwq
        subst hwq
        (try simp only [Act.put, List.setIfInBounds_toArray, List.set_cons_zero, List.set_cons_succ])
        refine wpAnyK_take (fun _ => rfl) (fun _ _ _ h k => h.trans k) (fun _ _ h k => k ▸ h) (i := 5) (oi := { dst := some 26, op := _, type := _, pos := _, after := _, guard := _ }) (v := ?_) rfl (by kernel_rfl) (by kernel_rfl) (by kernel_rfl) (fun _ _ _ h => h) (Or.inl (Or.inl ⟨by rfl, ?_⟩)) hS ?_
        rotate_left
        focus ((intro w hSw; (try dsimp only at hSw); obtain ⟨d0, d1, d2, d3⟩ := hSw; go_simp); (try with_reducible rfl))
        intro wq hwq
        subst hwq
        (try simp only [Act.put, List.setIfInBounds_toArray, List.set_cons_zero, List.set_cons_succ])
        refine wpAnyK_all (rs := [6]) (by kernel_rfl) (by simp) (fun i hi => ?_)
        simp only [List.mem_cons, List.not_mem_nil, or_false] at hi
        subst hi
        refine stepK (o := { dst := some 27, op := _, type := _, pos := _, after := _, guard := _ }) rfl (fun K hK => ?_)
        go_simp
        refine HC.out.mono ?_
        rintro e w2 ⟨q, hq, rfl, l2⟩
        replace hS : (fun W : World => W.cell? ⟨g, 2, none⟩ = some (.int .i64 ty) ∧ W.cell? ⟨b, off + k * 3, none⟩ = some (.int .i64 x0) ∧ W.cell? ⟨b, off + k * 3 + 1, none⟩ = some (.int .i64 x1) ∧ W.cell? ⟨b, off + k * 3 + 2, none⟩ = some (.string x2)) w2 := ⟨l2.cell hS.1, l2.cell hS.2.1, l2.cell hS.2.2.1, l2.cell hS.2.2.2⟩
        refine hK _ _ hS fun wq hwq => ?_
        subst hwq
        have HL2 := Lib.hid (HLD.out.trans l2)
        have HQ := Lib.hid hq
        clear hK l2 HC HLD hq
        (try simp only [Act.put, List.setIfInBounds_toArray, List.set_cons_zero, List.set_cons_succ])
        refine wpAnyK_take (fun _ => rfl) (fun _ _ _ h k => h.trans k) (fun _ _ h k => k ▸ h) (i := 7) (oi := { dst := some 28, op := _, type := _, pos := _, after := _, guard := _ }) (v := ?_) rfl (by kernel_rfl) (by kernel_rfl) (by kernel_rfl) (fun _ _ _ h => h) (Or.inl (Or.inl ⟨by rfl, ?_⟩)) hS ?_
        rotate_left
        focus ((intro w hSw; (try dsimp only at hSw); obtain ⟨d0, d1, d2, d3⟩ := hSw; go_simp); (try with_reducible rfl))
        intro wq hwq
        subst hwq
        (try simp only [Act.put, List.setIfInBounds_toArray, List.set_cons_zero, List.set_cons_succ])
        refine wpAnyK_done (by kernel_rfl) ?_ _
        clear hS
        cases q with
        | true =>
          have HX := Lib.hid (HST.out (HQ.out.1 rfl))
          go_wp2_with fail
          go_roundw
          all_goals first
            | exact ⟨k + 1, hlt, by go_num, HX.out, HL2.out⟩
            | exact ⟨_, _, _, _, ⟨k + 1, hlt, by go_num, HX.out, HL2.out⟩, rfl, rfl, rfl, rfl⟩
            | (simp [intOf]; omega)
            | trace_state
        | false =>
          have HX := Lib.hid (HNO.out fun h => by have := HQ.out.2 h; cases this)
          go_wp2_with fail
          go_ret
          exact TellsP.f HX.out HL2.out
      · have HX := Lib.hid (show FitsL xs r from ⟨by rw [← HRN.out, ← HVN.out, hne], fun j h h' => HALL.out j h h' (by have := HVN.out; omega)⟩)
        go_wp2_with fail
        go_ret
        exact TellsP.t HX.out lat
  · have hnn : ((rn : Int) != (vn : Int)) = true := by simp; omega
    have HX := Lib.hid (show ¬ FitsL xs r from fun h => hne (by rw [hrn, hvn]; exact h.1))
    clear hvn hrn
    go_enter Tryd.func26, Tryd.ntmps26
    go_wp2_with fail
    go_ret
    exact TellsP.f HX.out HL1.out
end Go.Proofs.YtklohbglkbhjhaaDoor
