/- The document's SameBag. (tools/gen_rbag.py) -/
import Derived.Test.YtlfmmhbaphnifaaRRRRGreatDoorSameW
import Derived.Test.YtlfmmhbaphnifaaRRRRGreatDoorBagM
import Derived.Test.YtlfmmhbaphnifaaRRRRGreatDoorKripke
namespace Go.Proofs.YtlfmmhbaphnifaaRRRRGreatDoor
open Go.RowKit
set_option linter.unusedVariables false

theorem info_bo : (Tryz.prog.info? 4).map (fun i => (i.zero, i.size, i.bytes)) = some (some (.bool false), 1, 1) := by kernel_rfl
def bl (us : List Bool) : Array Value := (us.map Value.bool).toArray
theorem bl_get (us : List Bool) (k : Nat) (h : k < us.length) : (bl us)[k]? = some (.bool us[k]) := by simp [bl, h]
theorem bl_set (us : List Bool) (k : Nat) : (bl us).setIfInBounds k (.bool true) = bl (us.set k true) := by
  unfold bl; rw [List.setIfInBounds_toArray, ← List.map_set]
/-- Where the outer loop stands. -/
def SbO (a b : List (List Val3)) (g : Nat) (w : World) (iv : Value) (wr : World) : Prop :=
  ∃ (i : Nat) (us : List Bool), iv = .int .i64 i ∧ i ≤ a.length ∧ us.length = b.length ∧ Blk wr g (bl us) 4 ∧ (a.take i).Perm (pkY us b) ∧ Later w wr
theorem SbO.mk {a b : List (List Val3)} {g : Nat} {w wr : World} (y : Int) (i : Nat) (us : List Bool) (hy : y = (i : Int)) (hi : i ≤ a.length) (hu : us.length = b.length) (hb : Blk wr g (bl us) 4) (hp : (a.take i).Perm (pkY us b)) (l : Later w wr) : SbO a b g w (.int .i64 y) wr := by
  subst hy; exact ⟨i, us, rfl, hi, hu, hb, hp, l⟩
/-- Where the inner loop stands: nothing found yet, or found. -/
def SbI (a b : List (List Val3)) (i : Nat) (us : List Bool) (g : Nat) (w : World) (fv kv : Value) (wr : World) : Prop :=
  ∃ (k : Nat), kv = .int .i64 k ∧ k ≤ b.length ∧ Later w wr ∧
    ((fv = .bool false ∧ Blk wr g (bl us) 4 ∧ ∀ j (h : j < us.length) (h' : j < b.length), j < k → us[j] = false → b[j] ≠ a.getD i []) ∨
     (fv = .bool true ∧ ∃ us' : List Bool, us'.length = b.length ∧ Blk wr g (bl us') 4 ∧ (a.take (i + 1)).Perm (pkY us' b)))
theorem SbI.no {a b : List (List Val3)} {i : Nat} {us : List Bool} {g : Nat} {w wr : World} (y : Int) (k : Nat) (hy : y = (k : Int)) (hk : k ≤ b.length) (hb : Blk wr g (bl us) 4) (h : ∀ j (h : j < us.length) (h' : j < b.length), j < k → us[j] = false → b[j] ≠ a.getD i []) (l : Later w wr) : SbI a b i us g w (.bool false) (.int .i64 y) wr := by
  subst hy; exact ⟨k, rfl, hk, l, .inl ⟨rfl, hb, h⟩⟩
theorem SbI.yes {a b : List (List Val3)} {i : Nat} {us us' : List Bool} {g : Nat} {w wr : World} (y : Int) (k : Nat) (hy : y = (k : Int)) (hk : k ≤ b.length) (hu : us'.length = b.length) (hb : Blk wr g (bl us') 4) (hp : (a.take (i + 1)).Perm (pkY us' b)) (l : Later w wr) : SbI a b i us g w (.bool true) (.int .i64 y) wr := by
  subst hy; exact ⟨k, rfl, hk, l, .inr ⟨rfl, us', hu, hb, hp⟩⟩

set_option maxRecDepth 100000 in
set_option maxHeartbeats 4000000 in
theorem refSameBag_any (A B : Option Addr) (n m c d : Nat) (ss ts : List SlV) (w : World) (hn : n = ss.length) (hm : m = ts.length) (hl : n ≤ 1000) (hl2 : m ≤ 1000) (ha : RowsAt w A ss) (hb : RowsAt w B ts) (la : ∀ s ∈ ss, s.l.length ≤ 9223372036854775807) (lb : ∀ s ∈ ts, s.l.length ≤ 9223372036854775807) :
    Calls Tryz.prog 21 #[.slice A n c, .slice B m d] w (TellsP ((ss.map (·.l)).Perm (ts.map (·.l))) w) := by
  have HN := Lib.hid (show n = (ss.map (·.l)).length by rw [List.length_map]; exact hn)
  have HM := Lib.hid (show m = (ts.map (·.l)).length by rw [List.length_map]; exact hm)
  have HNS := Lib.hid hn
  have HMS := Lib.hid hm
  have HA := Lib.hid ha
  have HB := Lib.hid hb
  have HLA := Lib.hid la
  have HLB := Lib.hid lb
  have HGA := Lib.hid (fun (i : Nat) (h : i < ss.length) => show (ss.map (·.l)).getD i [] = ss[i].l by simp [h])
  have HGB := Lib.hid (fun (i : Nat) (h : i < (ts.map (·.l)).length) (h' : i < ts.length) => show (ts.map (·.l))[i] = ts[i].l by simp)
  have HGA2 := Lib.hid (fun (i : Nat) (h : i < (ss.map (·.l)).length) => show (ss.map (·.l))[i] = (ss.map (·.l)).getD i [] by rw [List.getD_eq_getElem?_getD, List.getElem?_eq_getElem h]; rfl)
  obtain ⟨a, hae⟩ : ∃ x, ss.map (·.l) = x := ⟨_, rfl⟩
  obtain ⟨b, hbe⟩ : ∃ x, ts.map (·.l) = x := ⟨_, rfl⟩
  simp only [hae, hbe] at HN HM HGA HGB HGA2
  rw [hae, hbe]
  clear hn hm ha hb la lb
  by_cases hnm : n = m
  · subst hnm
    have hee : ((n : Int) != (n : Int)) = false := by simp
    obtain ⟨w1, hw1⟩ : ∃ x : World, w.alloc (.cells (madeCells #[.bool false] n) 4) = x := ⟨_, rfl⟩
    have l1 : Later w w1 := hw1 ▸ Later.new _ _
    obtain ⟨g, hg⟩ : ∃ x, w.heap.size = x := ⟨_, rfl⟩
    have hb1 : Blk w1 g (bl (List.replicate n false)) 4 := by
      rw [← hw1, ← hg]
      have h := Blk.new w (madeCells #[.bool false] n) 4 _ rfl
      have e : madeCells #[.bool false] n = bl (List.replicate n false) := by
        unfold bl
        apply Array.toList_inj.1
        rw [toList_madeCells_one, List.map_replicate]
      rw [e] at h ⊢
      exact h
    have HGW := Lib.hid (show w.heap.size ≤ g by rw [← hg]; exact Nat.le_refl _)
    have HI0 := Lib.hid (SbO.mk (a := a) (b := b) (g := g) (w := w) (wr := w1) 0 0 (List.replicate n false) rfl (Nat.zero_le _) (by rw [List.length_replicate]; exact HM.out) hb1 (by rw [List.take_zero, HM.out, pkY_new]) l1)
    have hmk := fun Wd => run_make_row' (P := Tryz.prog) 47 4 (.bool false) 1 Tryz.underlying47 info_bo rfl .i64 .i64 n (by omega) (by omega) Wd
    have hn0 : ¬ (n : Int) < 0 := by omega
    clear l1 hb1
    go_enter Tryz.func21, Tryz.ntmps21
    go_wp2_with fail

    clear hmk hw1 hg hee hn0
    go_loopw [6] (fun iv wr => SbO a b g w iv wr) (fun i _ => n - (intOf i).toNat)
    case atStart => exact HI0.out
    case round =>
      obtain ⟨i, us, rfl, hi, hul, hbu, hpm, lat⟩ := hrel
      have HPM := Lib.hid hpm
      have HUL := Lib.hid hul
      clear hpm HI0
      by_cases hlt : i < n
      · have his : i < ss.length := by have := HNS.out; omega
        have hia : i < a.length := by have := HN.out; omega
        have HJ0 := Lib.hid (SbI.no (a := a) (b := b) (i := i) (us := us) (g := g) (w := w) (wr := wr) 0 0 rfl (Nat.zero_le _) hbu (fun j h h' hj => absurd hj (Nat.not_lt_zero _)) lat)
        clear lat hbu
        go_wp2_with fail
        go_loopw [7, 8] (fun fv kv wr => SbI a b i us g w fv kv wr) (fun _ k _ => n - (intOf k).toNat)
        case atStart => exact HJ0.out
        case round =>
          obtain ⟨k, rfl, hk, lat2, hc⟩ := hrel
          have hkn : k ≤ n := by have := HM.out; omega
          clear HJ0
          rcases hc with ⟨rfl, hbu, hno⟩ | ⟨rfl, us', hul', hbu', hpm'⟩
          · have HNO := Lib.hid hno
            have HBU := Lib.hid hbu
            clear hno hbu
            by_cases hkn2 : k < n
            · have hkb : k < b.length := by have := HM.out; omega
              have hkt : k < ts.length := by have := HMS.out; omega
              have hku : k < us.length := by have := HUL.out; omega
              have hkm : k + 1 ≤ b.length := hkb
              obtain ⟨ab, ao, hAB, ckA0, hra, _⟩ := HA.out.get i his
              obtain ⟨bb, bo, hBB, ckB0, hrb, _⟩ := HB.out.get k hkt
              subst hAB hBB
              have ckA := lat2.cell ckA0
              have ckB := lat2.cell ckB0
              have ckU := HBU.out.cell k _ (bl_get us k hku)
              have hra_ := HLA.out _ (List.getElem_mem his)
              have hrb_ := HLB.out _ (List.getElem_mem hkt)
              have HEA := Lib.hid (HGA.out i his)
              have HEB := Lib.hid (HGB.out k hkb hkt)
              obtain ⟨ra_, hra1⟩ : ∃ x, ss[i].l = x := ⟨_, rfl⟩
              obtain ⟨rb_, hrb1⟩ : ∃ x, ts[k].l = x := ⟨_, rfl⟩
              rw [hra1] at ckA hra hra_ HEA
              rw [hrb1] at ckB hrb hrb_ HEB
              have HRA := Lib.hid (hra.later lat2)
              have HRB := Lib.hid (hrb.later lat2)
              generalize ss[i].a = RA at ckA HRA
              generalize ss[i].c = ra at ckA
              generalize ts[k].a = RB at ckB HRB
              generalize ts[k].c = sa at ckB
              obtain ⟨rn, hrn⟩ : ∃ x, ra_.length = x := ⟨_, rfl⟩
              obtain ⟨sn, hsn⟩ : ∃ x, rb_.length = x := ⟨_, rfl⟩
              have HRN := Lib.hid hrn.symm
              have HSN := Lib.hid hsn.symm
              rw [hrn] at ckA hra_
              rw [hsn] at ckB hrb_
              have HSN2 := Lib.hid (fun (hd : ¬ ra_ = rb_) => show ∀ j (h : j < us.length) (h' : j < b.length), j < k + 1 → us[j] = false → b[j] ≠ a.getD i [] from fun j h h' hj hf => by
                rcases Nat.lt_or_ge j k with h3 | h3
                · exact HNO.out j h h' h3 hf
                · obtain rfl : j = k := by omega
                  rw [HEA.out, HEB.out]; exact fun e => hd e.symm)
              have HEQ := Lib.hid (fun (hd : ra_ = rb_) (hf : us[k] = false) => show (a.take (i + 1)).Perm (pkY (us.set k true) b) from pk_more hia hku hkb hf (by rw [HEB.out, HGA2.out i hia, HEA.out, hd]) HPM.out)
              clear ckA0 ckB0 hra hrb hra1 hrb1 hrn hsn
              cases huk : us[k] with
              | true =>
                have HST := Lib.hid (show ∀ j (h : j < us.length) (h' : j < b.length), j < k + 1 → us[j] = false → b[j] ≠ a.getD i [] from fun j h h' hj hf => by
                  rcases Nat.lt_or_ge j k with h3 | h3
                  · exact HNO.out j h h' h3 hf
                  · obtain rfl : j = k := by omega
                    rw [huk] at hf; cases hf)
                rw [huk] at ckU
                clear huk HSN2 HEQ HNO HRA HRB
                go_wp2_with fail
                refine wp_region_K (S := fun W : World => W.cell? ⟨g, k, none⟩ = some (.bool true) ∧ W.cell? ⟨ab, ao + i, none⟩ = some (.slice RA rn ra) ∧ W.cell? ⟨bb, bo + k, none⟩ = some (.slice RB sn sa)) (R := fun a b => a = b) (fun _ => rfl) (by kernel_rfl) ?_
                obtain ⟨wd, hwd⟩ : ∃ x, wr.drew = x := ⟨_, rfl⟩
                have ld : Later wr wd := hwd ▸ (Later.refl wr).drew
                have hS : (fun W : World => W.cell? ⟨g, k, none⟩ = some (.bool true) ∧ W.cell? ⟨ab, ao + i, none⟩ = some (.slice RA rn ra) ∧ W.cell? ⟨bb, bo + k, none⟩ = some (.slice RB sn sa)) wd := ⟨ld.cell ckU, ld.cell ckA, ld.cell ckB⟩
                rw [hwd]
                clear hwd ckU ckA ckB
                refine wpAnyK_take (fun _ => rfl) (fun _ _ _ h k => h.trans k) (fun _ _ h k => k ▸ h) (i := 0) (oi := { dst := some 33, op := _, type := _, pos := _, after := _, guard := _ }) (v := ?_) rfl (by kernel_rfl) (by kernel_rfl) (by kernel_rfl) (fun _ _ _ h => h) (Or.inl (Or.inl ⟨by rfl, ?_⟩)) hS ?_
                rotate_left
                focus ((intro w hSw; (try dsimp only at hSw); obtain ⟨d0, d1, d2⟩ := hSw; go_simp); (try with_reducible rfl))
                intro wq' hwq
                subst hwq
                (try simp only [Act.put, List.setIfInBounds_toArray, List.set_cons_zero, List.set_cons_succ])
                refine wpAnyK_take (fun _ => rfl) (fun _ _ _ h k => h.trans k) (fun _ _ h k => k ▸ h) (i := 1) (oi := { dst := some 34, op := _, type := _, pos := _, after := _, guard := _ }) (v := ?_) rfl (by kernel_rfl) (by kernel_rfl) (by kernel_rfl) (fun _ _ _ h => h) (Or.inl (Or.inl ⟨by rfl, ?_⟩)) hS ?_
                rotate_left
                focus ((intro w hSw; (try dsimp only at hSw); obtain ⟨d0, d1, d2⟩ := hSw; go_simp); (try with_reducible rfl))
                intro wq' hwq
                subst hwq
                (try simp only [Act.put, List.setIfInBounds_toArray, List.set_cons_zero, List.set_cons_succ])
                refine wpAnyK_take (fun _ => rfl) (fun _ _ _ h k => h.trans k) (fun _ _ h k => k ▸ h) (i := 2) (oi := { dst := some 35, op := _, type := _, pos := _, after := _, guard := _ }) (v := ?_) rfl (by kernel_rfl) (by kernel_rfl) (by kernel_rfl) (fun _ _ _ h => h) (Or.inl (Or.inl ⟨by rfl, ?_⟩)) hS ?_
                rotate_left
                focus ((intro w hSw; (try dsimp only at hSw); obtain ⟨d0, d1, d2⟩ := hSw; go_simp); (try with_reducible rfl))
                intro wq' hwq
                subst hwq
                (try simp only [Act.put, List.setIfInBounds_toArray, List.set_cons_zero, List.set_cons_succ])
                refine wpAnyK_take (fun _ => rfl) (fun _ _ _ h k => h.trans k) (fun _ _ h k => k ▸ h) (i := 3) (oi := { dst := some 36, op := _, type := _, pos := _, after := _, guard := _ }) (v := ?_) rfl (by kernel_rfl) (by kernel_rfl) (by kernel_rfl) (fun _ _ _ h => h) (Or.inl (Or.inl ⟨by rfl, ?_⟩)) hS ?_
                rotate_left
                focus ((intro w hSw; (try dsimp only at hSw); obtain ⟨d0, d1, d2⟩ := hSw; go_simp); (try with_reducible rfl))
                intro wq' hwq
                subst hwq
                (try simp only [Act.put, List.setIfInBounds_toArray, List.set_cons_zero, List.set_cons_succ])
                refine wpAnyK_take (fun _ => rfl) (fun _ _ _ h k => h.trans k) (fun _ _ h k => k ▸ h) (i := 4) (oi := { dst := some 37, op := _, type := _, pos := _, after := _, guard := _ }) (v := ?_) rfl (by kernel_rfl) (by kernel_rfl) (by kernel_rfl) (fun _ _ _ h => h) (Or.inl (Or.inl ⟨by rfl, ?_⟩)) hS ?_
                rotate_left
                focus ((intro w hSw; (try dsimp only at hSw); obtain ⟨d0, d1, d2⟩ := hSw; go_simp); (try with_reducible rfl))
                intro wq' hwq
                subst hwq
                (try simp only [Act.put, List.setIfInBounds_toArray, List.set_cons_zero, List.set_cons_succ])
                refine wpAnyK_take (fun _ => rfl) (fun _ _ _ h k => h.trans k) (fun _ _ h k => k ▸ h) (i := 5) (oi := { dst := some 38, op := _, type := _, pos := _, after := _, guard := _ }) (v := ?_) rfl (by kernel_rfl) (by kernel_rfl) (by kernel_rfl) (fun _ _ _ h => h) (Or.inl (Or.inl ⟨by rfl, ?_⟩)) hS ?_
                rotate_left
                focus ((intro w hSw; (try dsimp only at hSw); obtain ⟨d0, d1, d2⟩ := hSw; go_simp); (try with_reducible rfl))
                intro wq' hwq
                subst hwq
                (try simp only [Act.put, List.setIfInBounds_toArray, List.set_cons_zero, List.set_cons_succ])
                refine wpAnyK_take (fun _ => rfl) (fun _ _ _ h k => h.trans k) (fun _ _ h k => k ▸ h) (i := 6) (oi := { dst := some 39, op := _, type := _, pos := _, after := _, guard := _ }) (v := undef) rfl (by kernel_rfl) (by kernel_rfl) (by kernel_rfl) (fun _ _ _ h => h) (Or.inl (Or.inr ⟨by rfl, rfl⟩)) hS ?_
                intro wq' hwq
                subst hwq
                (try simp only [Act.put, List.setIfInBounds_toArray, List.set_cons_zero, List.set_cons_succ])
                refine wpAnyK_take (fun _ => rfl) (fun _ _ _ h k => h.trans k) (fun _ _ h k => k ▸ h) (i := 7) (oi := { dst := some 40, op := _, type := _, pos := _, after := _, guard := _ }) (v := undef) rfl (by kernel_rfl) (by kernel_rfl) (by kernel_rfl) (fun _ _ _ h => h) (Or.inl (Or.inr ⟨by rfl, rfl⟩)) hS ?_
                intro wq' hwq
                subst hwq
                (try simp only [Act.put, List.setIfInBounds_toArray, List.set_cons_zero, List.set_cons_succ])
                refine wpAnyK_take (fun _ => rfl) (fun _ _ _ h k => h.trans k) (fun _ _ h k => k ▸ h) (i := 8) (oi := { dst := some 41, op := _, type := _, pos := _, after := _, guard := _ }) (v := undef) rfl (by kernel_rfl) (by kernel_rfl) (by kernel_rfl) (fun _ _ _ h => h) (Or.inl (Or.inr ⟨by rfl, rfl⟩)) hS ?_
                intro wq' hwq
                subst hwq
                (try simp only [Act.put, List.setIfInBounds_toArray, List.set_cons_zero, List.set_cons_succ])
                refine wpAnyK_take (fun _ => rfl) (fun _ _ _ h k => h.trans k) (fun _ _ h k => k ▸ h) (i := 9) (oi := { dst := some 42, op := _, type := _, pos := _, after := _, guard := _ }) (v := undef) rfl (by kernel_rfl) (by kernel_rfl) (by kernel_rfl) (fun _ _ _ h => h) (Or.inl (Or.inr ⟨by rfl, rfl⟩)) hS ?_
                intro wq' hwq
                subst hwq
                (try simp only [Act.put, List.setIfInBounds_toArray, List.set_cons_zero, List.set_cons_succ])
                refine wpAnyK_take (fun _ => rfl) (fun _ _ _ h k => h.trans k) (fun _ _ h k => k ▸ h) (i := 10) (oi := { dst := some 43, op := _, type := _, pos := _, after := _, guard := _ }) (v := undef) rfl (by kernel_rfl) (by kernel_rfl) (by kernel_rfl) (fun _ _ _ h => h) (Or.inl (Or.inr ⟨by rfl, rfl⟩)) hS ?_
                intro wq' hwq
                subst hwq
                (try simp only [Act.put, List.setIfInBounds_toArray, List.set_cons_zero, List.set_cons_succ])
                refine wpAnyK_take (fun _ => rfl) (fun _ _ _ h k => h.trans k) (fun _ _ h k => k ▸ h) (i := 11) (oi := { dst := some 44, op := _, type := _, pos := _, after := _, guard := _ }) (v := undef) rfl (by kernel_rfl) (by kernel_rfl) (by kernel_rfl) (fun _ _ _ h => h) (Or.inl (Or.inr ⟨by rfl, rfl⟩)) hS ?_
                intro wq' hwq
                subst hwq
                (try simp only [Act.put, List.setIfInBounds_toArray, List.set_cons_zero, List.set_cons_succ])
                refine wpAnyK_take (fun _ => rfl) (fun _ _ _ h k => h.trans k) (fun _ _ h k => k ▸ h) (i := 12) (oi := { dst := some 45, op := _, type := _, pos := _, after := _, guard := _ }) (v := undef) rfl (by kernel_rfl) (by kernel_rfl) (by kernel_rfl) (fun _ _ _ h => h) (Or.inl (Or.inr ⟨by rfl, rfl⟩)) hS ?_
                intro wq' hwq
                subst hwq
                (try simp only [Act.put, List.setIfInBounds_toArray, List.set_cons_zero, List.set_cons_succ])
                refine wpAnyK_take (fun _ => rfl) (fun _ _ _ h k => h.trans k) (fun _ _ h k => k ▸ h) (i := 13) (oi := { dst := some 46, op := _, type := _, pos := _, after := _, guard := _ }) (v := undef) rfl (by kernel_rfl) (by kernel_rfl) (by kernel_rfl) (fun _ _ _ h => h) (Or.inl (Or.inr ⟨by rfl, rfl⟩)) hS ?_
                intro wq' hwq
                subst hwq
                (try simp only [Act.put, List.setIfInBounds_toArray, List.set_cons_zero, List.set_cons_succ])
                refine wpAnyK_take (fun _ => rfl) (fun _ _ _ h k => h.trans k) (fun _ _ h k => k ▸ h) (i := 14) (oi := { dst := some 47, op := _, type := _, pos := _, after := _, guard := _ }) (v := undef) rfl (by kernel_rfl) (by kernel_rfl) (by kernel_rfl) (fun _ _ _ h => h) (Or.inl (Or.inr ⟨by rfl, rfl⟩)) hS ?_
                intro wq' hwq
                subst hwq
                (try simp only [Act.put, List.setIfInBounds_toArray, List.set_cons_zero, List.set_cons_succ])
                refine wpAnyK_take (fun _ => rfl) (fun _ _ _ h k => h.trans k) (fun _ _ h k => k ▸ h) (i := 15) (oi := { dst := some 48, op := _, type := _, pos := _, after := _, guard := _ }) (v := ?_) rfl (by kernel_rfl) (by kernel_rfl) (by kernel_rfl) (fun _ _ _ h => h) (Or.inl (Or.inl ⟨by rfl, ?_⟩)) hS ?_
                rotate_left
                focus ((intro w hSw; (try dsimp only at hSw); obtain ⟨d0, d1, d2⟩ := hSw; go_simp); (try with_reducible rfl))
                intro wq' hwq
                subst hwq
                (try simp only [Act.put, List.setIfInBounds_toArray, List.set_cons_zero, List.set_cons_succ])
                refine wpAnyK_done (by kernel_rfl) ?_ _
                clear hS
                go_wp2_with fail
                go_roundw
                all_goals first
                  | exact SbI.no _ (k + 1) (by go_num) hkm (HBU.out.later ld) HST.out (lat2.trans ld)
                  | (simp [intOf]; omega)
              | false =>
                have HEQ := Lib.hid (fun hd => HEQ.out hd huk)
                rw [huk] at ckU
                clear huk HNO
                go_wp2_with fail
                refine wp_region_K (S := fun W : World => W.cell? ⟨g, k, none⟩ = some (.bool false) ∧ W.cell? ⟨ab, ao + i, none⟩ = some (.slice RA rn ra) ∧ W.cell? ⟨bb, bo + k, none⟩ = some (.slice RB sn sa)) (R := fun a b => a = b) (fun _ => rfl) (by kernel_rfl) ?_
                obtain ⟨wd, hwd⟩ : ∃ x, wr.drew = x := ⟨_, rfl⟩
                have ld : Later wr wd := hwd ▸ (Later.refl wr).drew
                have hS : (fun W : World => W.cell? ⟨g, k, none⟩ = some (.bool false) ∧ W.cell? ⟨ab, ao + i, none⟩ = some (.slice RA rn ra) ∧ W.cell? ⟨bb, bo + k, none⟩ = some (.slice RB sn sa)) wd := ⟨ld.cell ckU, ld.cell ckA, ld.cell ckB⟩
                rw [hwd]
                clear hwd ckU ckA ckB
                refine wpAnyK_take (fun _ => rfl) (fun _ _ _ h k => h.trans k) (fun _ _ h k => k ▸ h) (i := 0) (oi := { dst := some 33, op := _, type := _, pos := _, after := _, guard := _ }) (v := ?_) rfl (by kernel_rfl) (by kernel_rfl) (by kernel_rfl) (fun _ _ _ h => h) (Or.inl (Or.inl ⟨by rfl, ?_⟩)) hS ?_
                rotate_left
                focus ((intro w hSw; (try dsimp only at hSw); obtain ⟨d0, d1, d2⟩ := hSw; go_simp); (try with_reducible rfl))
                intro wq' hwq
                subst hwq
                (try simp only [Act.put, List.setIfInBounds_toArray, List.set_cons_zero, List.set_cons_succ])
                refine wpAnyK_take (fun _ => rfl) (fun _ _ _ h k => h.trans k) (fun _ _ h k => k ▸ h) (i := 1) (oi := { dst := some 34, op := _, type := _, pos := _, after := _, guard := _ }) (v := ?_) rfl (by kernel_rfl) (by kernel_rfl) (by kernel_rfl) (fun _ _ _ h => h) (Or.inl (Or.inl ⟨by rfl, ?_⟩)) hS ?_
                rotate_left
                focus ((intro w hSw; (try dsimp only at hSw); obtain ⟨d0, d1, d2⟩ := hSw; go_simp); (try with_reducible rfl))
                intro wq' hwq
                subst hwq
                (try simp only [Act.put, List.setIfInBounds_toArray, List.set_cons_zero, List.set_cons_succ])
                refine wpAnyK_take (fun _ => rfl) (fun _ _ _ h k => h.trans k) (fun _ _ h k => k ▸ h) (i := 2) (oi := { dst := some 35, op := _, type := _, pos := _, after := _, guard := _ }) (v := ?_) rfl (by kernel_rfl) (by kernel_rfl) (by kernel_rfl) (fun _ _ _ h => h) (Or.inl (Or.inl ⟨by rfl, ?_⟩)) hS ?_
                rotate_left
                focus ((intro w hSw; (try dsimp only at hSw); obtain ⟨d0, d1, d2⟩ := hSw; go_simp); (try with_reducible rfl))
                intro wq' hwq
                subst hwq
                (try simp only [Act.put, List.setIfInBounds_toArray, List.set_cons_zero, List.set_cons_succ])
                refine wpAnyK_take (fun _ => rfl) (fun _ _ _ h k => h.trans k) (fun _ _ h k => k ▸ h) (i := 3) (oi := { dst := some 36, op := _, type := _, pos := _, after := _, guard := _ }) (v := ?_) rfl (by kernel_rfl) (by kernel_rfl) (by kernel_rfl) (fun _ _ _ h => h) (Or.inl (Or.inl ⟨by rfl, ?_⟩)) hS ?_
                rotate_left
                focus ((intro w hSw; (try dsimp only at hSw); obtain ⟨d0, d1, d2⟩ := hSw; go_simp); (try with_reducible rfl))
                intro wq' hwq
                subst hwq
                (try simp only [Act.put, List.setIfInBounds_toArray, List.set_cons_zero, List.set_cons_succ])
                refine wpAnyK_take (fun _ => rfl) (fun _ _ _ h k => h.trans k) (fun _ _ h k => k ▸ h) (i := 4) (oi := { dst := some 37, op := _, type := _, pos := _, after := _, guard := _ }) (v := ?_) rfl (by kernel_rfl) (by kernel_rfl) (by kernel_rfl) (fun _ _ _ h => h) (Or.inl (Or.inl ⟨by rfl, ?_⟩)) hS ?_
                rotate_left
                focus ((intro w hSw; (try dsimp only at hSw); obtain ⟨d0, d1, d2⟩ := hSw; go_simp); (try with_reducible rfl))
                intro wq' hwq
                subst hwq
                (try simp only [Act.put, List.setIfInBounds_toArray, List.set_cons_zero, List.set_cons_succ])
                refine wpAnyK_take (fun _ => rfl) (fun _ _ _ h k => h.trans k) (fun _ _ h k => k ▸ h) (i := 5) (oi := { dst := some 38, op := _, type := _, pos := _, after := _, guard := _ }) (v := ?_) rfl (by kernel_rfl) (by kernel_rfl) (by kernel_rfl) (fun _ _ _ h => h) (Or.inl (Or.inl ⟨by rfl, ?_⟩)) hS ?_
                rotate_left
                focus ((intro w hSw; (try dsimp only at hSw); obtain ⟨d0, d1, d2⟩ := hSw; go_simp); (try with_reducible rfl))
                intro wq' hwq
                subst hwq
                (try simp only [Act.put, List.setIfInBounds_toArray, List.set_cons_zero, List.set_cons_succ])
                refine wpAnyK_take (fun _ => rfl) (fun _ _ _ h k => h.trans k) (fun _ _ h k => k ▸ h) (i := 6) (oi := { dst := some 39, op := _, type := _, pos := _, after := _, guard := _ }) (v := ?_) rfl (by kernel_rfl) (by kernel_rfl) (by kernel_rfl) (fun _ _ _ h => h) (Or.inl (Or.inl ⟨by rfl, ?_⟩)) hS ?_
                rotate_left
                focus ((intro w hSw; (try dsimp only at hSw); obtain ⟨d0, d1, d2⟩ := hSw; go_simp); (try with_reducible rfl))
                intro wq' hwq
                subst hwq
                (try simp only [Act.put, List.setIfInBounds_toArray, List.set_cons_zero, List.set_cons_succ])
                refine wpAnyK_take (fun _ => rfl) (fun _ _ _ h k => h.trans k) (fun _ _ h k => k ▸ h) (i := 7) (oi := { dst := some 40, op := _, type := _, pos := _, after := _, guard := _ }) (v := ?_) rfl (by kernel_rfl) (by kernel_rfl) (by kernel_rfl) (fun _ _ _ h => h) (Or.inl (Or.inl ⟨by rfl, ?_⟩)) hS ?_
                rotate_left
                focus ((intro w hSw; (try dsimp only at hSw); obtain ⟨d0, d1, d2⟩ := hSw; go_simp); (try with_reducible rfl))
                intro wq' hwq
                subst hwq
                (try simp only [Act.put, List.setIfInBounds_toArray, List.set_cons_zero, List.set_cons_succ])
                refine wpAnyK_take (fun _ => rfl) (fun _ _ _ h k => h.trans k) (fun _ _ h k => k ▸ h) (i := 8) (oi := { dst := some 41, op := _, type := _, pos := _, after := _, guard := _ }) (v := ?_) rfl (by kernel_rfl) (by kernel_rfl) (by kernel_rfl) (fun _ _ _ h => h) (Or.inl (Or.inl ⟨by rfl, ?_⟩)) hS ?_
                rotate_left
                focus ((intro w hSw; (try dsimp only at hSw); obtain ⟨d0, d1, d2⟩ := hSw; go_simp); (try with_reducible rfl))
                intro wq' hwq
                subst hwq
                (try simp only [Act.put, List.setIfInBounds_toArray, List.set_cons_zero, List.set_cons_succ])
                refine wpAnyK_take (fun _ => rfl) (fun _ _ _ h k => h.trans k) (fun _ _ h k => k ▸ h) (i := 9) (oi := { dst := some 42, op := _, type := _, pos := _, after := _, guard := _ }) (v := ?_) rfl (by kernel_rfl) (by kernel_rfl) (by kernel_rfl) (fun _ _ _ h => h) (Or.inl (Or.inl ⟨by rfl, ?_⟩)) hS ?_
                rotate_left
                focus ((intro w hSw; (try dsimp only at hSw); obtain ⟨d0, d1, d2⟩ := hSw; go_simp); (try with_reducible rfl))
                intro wq' hwq
                subst hwq
                (try simp only [Act.put, List.setIfInBounds_toArray, List.set_cons_zero, List.set_cons_succ])
                refine wpAnyK_take (fun _ => rfl) (fun _ _ _ h k => h.trans k) (fun _ _ h k => k ▸ h) (i := 10) (oi := { dst := some 43, op := _, type := _, pos := _, after := _, guard := _ }) (v := ?_) rfl (by kernel_rfl) (by kernel_rfl) (by kernel_rfl) (fun _ _ _ h => h) (Or.inl (Or.inl ⟨by rfl, ?_⟩)) hS ?_
                rotate_left
                focus ((intro w hSw; (try dsimp only at hSw); obtain ⟨d0, d1, d2⟩ := hSw; go_simp); (try with_reducible rfl))
                intro wq' hwq
                subst hwq
                (try simp only [Act.put, List.setIfInBounds_toArray, List.set_cons_zero, List.set_cons_succ])
                refine wpAnyK_take (fun _ => rfl) (fun _ _ _ h k => h.trans k) (fun _ _ h k => k ▸ h) (i := 11) (oi := { dst := some 44, op := _, type := _, pos := _, after := _, guard := _ }) (v := ?_) rfl (by kernel_rfl) (by kernel_rfl) (by kernel_rfl) (fun _ _ _ h => h) (Or.inl (Or.inl ⟨by rfl, ?_⟩)) hS ?_
                rotate_left
                focus ((intro w hSw; (try dsimp only at hSw); obtain ⟨d0, d1, d2⟩ := hSw; go_simp); (try with_reducible rfl))
                intro wq' hwq
                subst hwq
                (try simp only [Act.put, List.setIfInBounds_toArray, List.set_cons_zero, List.set_cons_succ])
                refine wpAnyK_take (fun _ => rfl) (fun _ _ _ h k => h.trans k) (fun _ _ h k => k ▸ h) (i := 12) (oi := { dst := some 45, op := _, type := _, pos := _, after := _, guard := _ }) (v := ?_) rfl (by kernel_rfl) (by kernel_rfl) (by kernel_rfl) (fun _ _ _ h => h) (Or.inl (Or.inl ⟨by rfl, ?_⟩)) hS ?_
                rotate_left
                focus ((intro w hSw; (try dsimp only at hSw); obtain ⟨d0, d1, d2⟩ := hSw; go_simp); (try with_reducible rfl))
                intro wq' hwq
                subst hwq
                (try simp only [Act.put, List.setIfInBounds_toArray, List.set_cons_zero, List.set_cons_succ])
                refine wpAnyK_take (fun _ => rfl) (fun _ _ _ h k => h.trans k) (fun _ _ h k => k ▸ h) (i := 13) (oi := { dst := some 46, op := _, type := _, pos := _, after := _, guard := _ }) (v := ?_) rfl (by kernel_rfl) (by kernel_rfl) (by kernel_rfl) (fun _ _ _ h => h) (Or.inl (Or.inl ⟨by rfl, ?_⟩)) hS ?_
                rotate_left
                focus ((intro w hSw; (try dsimp only at hSw); obtain ⟨d0, d1, d2⟩ := hSw; go_simp); (try with_reducible rfl))
                intro wq' hwq
                subst hwq
                (try simp only [Act.put, List.setIfInBounds_toArray, List.set_cons_zero, List.set_cons_succ])
                refine wpAnyK_all (rs := [14]) (by kernel_rfl) (by simp) (fun i hi => ?_)
                simp only [List.mem_cons, List.not_mem_nil, or_false] at hi
                subst hi
                refine stepK (o := { dst := some 47, op := _, type := _, pos := _, after := _, guard := _ }) rfl (fun K hK => ?_)
                go_simp
                refine (refSameRow_anyW RA RB rn sn ra sa ra_ rb_ wd HRN.out HSN.out (HRA.out.later ld) (HRB.out.later ld) (by omega) (by omega)).mono ?_
                rintro e wz ⟨r, hr, rfl, lz⟩
                refine hK _ _ ⟨lz.cell hS.1, lz.cell hS.2.1, lz.cell hS.2.2⟩ fun wq' hwq => ?_
                subst hwq
                clear hK
                (try simp only [Act.put, List.setIfInBounds_toArray, List.set_cons_zero, List.set_cons_succ])
                replace hS := (show _ ∧ _ ∧ _ from ⟨lz.cell hS.1, lz.cell hS.2.1, lz.cell hS.2.2⟩)
                have HBZ := Lib.hid ((HBU.out.later ld).later lz)
                have HLZ := Lib.hid ((lat2.trans ld).trans lz)
                clear lz ld lat2
                refine wpAnyK_take (fun _ => rfl) (fun _ _ _ h k => h.trans k) (fun _ _ h k => k ▸ h) (i := 15) (oi := { dst := some 48, op := _, type := _, pos := _, after := _, guard := _ }) (v := ?_) rfl (by kernel_rfl) (by kernel_rfl) (by kernel_rfl) (fun _ _ _ h => h) (Or.inl (Or.inl ⟨by rfl, ?_⟩)) hS ?_
                rotate_left
                focus ((intro w hSw; (try dsimp only at hSw); obtain ⟨d0, d1, d2⟩ := hSw; go_simp); (try with_reducible rfl))
                intro wq' hwq
                subst hwq
                (try simp only [Act.put, List.setIfInBounds_toArray, List.set_cons_zero, List.set_cons_succ])
                refine wpAnyK_done (by kernel_rfl) ?_ _
                clear hS
                cases r with
                | true =>
                  have HE := Lib.hid (HEQ.out (hr.1 rfl))
                  have y0 := HBZ.out.cell k _ (bl_get us k hku)
                  have y1 := HBZ.out.frozen k
                  have HB2 := Lib.hid (show Blk (wz.setCell ⟨g, k, none⟩ (.bool true)) g (bl (us.set k true)) 4 from bl_set us k ▸ HBZ.out.set_ k (.bool true))
                  have HL2 := Lib.hid (show Later w (wz.setCell ⟨g, k, none⟩ (.bool true)) from Later.of (HLZ.out.below.setCell (p := ⟨g, k, none⟩) HGW.out _))
                  clear hr
                  go_wp2_with fail
                  go_roundw
                  all_goals first
                    | exact SbI.yes _ (k + 1) (by go_num) hkm (by rw [List.length_set]; exact HUL.out) HB2.out HE.out HL2.out
                    | (simp [intOf]; omega)
                | false =>
                  have HNE := Lib.hid (HSN2.out (fun h => by have := hr.2 h; cases this))
                  clear hr
                  go_wp2_with fail
                  go_roundw
                  all_goals first
                    | exact SbI.no _ (k + 1) (by go_num) hkm HBZ.out HNE.out HLZ.out
                    | (simp [intOf]; omega)
            · have hkn3 : k = n := by omega
              have HNP := Lib.hid (show ¬ a.Perm b from pk_none hia HUL.out HPM.out fun j h h' hf => by
                rw [HGA2.out i hia]
                exact HNO.out j h h' (by have := HUL.out; have := HM.out; omega) hf)
              have HLT2 := Lib.hid lat2
              clear lat2 HNO
              go_wp2_with fail
              go_ret
              exact ⟨false, by simp [HNP.out], rfl, HLT2.out⟩
          · have HB2 := Lib.hid hbu'
            have HP2 := Lib.hid hpm'
            have HU2 := Lib.hid hul'
            have HLT2 := Lib.hid lat2
            clear hbu' hpm' lat2
            by_cases hkn2 : k < n
            all_goals
              go_wp2_with fail
              go_roundw
              all_goals first
                | exact SbO.mk _ (i + 1) us' (by go_num) hia HU2.out HB2.out HP2.out HLT2.out
                | (simp [intOf]; omega)
      · have hin : i = a.length := by have := HN.out; omega
        have HPE := Lib.hid (show a.Perm b from by
          have h := HPM.out
          rw [hin, List.take_length] at h
          exact pk_end HUL.out (by have := HN.out; have := HM.out; omega) h)
        have HLT := Lib.hid lat
        clear lat hin hbu
        go_wp2_with fail
        go_ret
        exact ⟨true, by simp [HPE.out], rfl, HLT.out⟩
  · have HNO := Lib.hid (show ¬ a.Perm b from fun h => hnm (by rw [HN.out, HM.out]; exact h.length_eq))
    have hne : ((n : Int) != (m : Int)) = true := by simp; omega
    go_enter Tryz.func21, Tryz.ntmps21
    go_wp2_with fail
    go_ret
    exact ⟨false, by simp [HNO.out], rfl, Later.refl _⟩
end Go.Proofs.YtlfmmhbaphnifaaRRRRGreatDoor
