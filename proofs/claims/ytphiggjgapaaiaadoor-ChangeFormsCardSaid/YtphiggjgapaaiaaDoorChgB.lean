/- The walks of change's small ones: asks, cut, wider. -/
import Derived.Test.YtphiggjgapaaiaaDoorMay3
import Derived.Test.YtphiggjgapaaiaaDoorShelf
import Derived.Test.YtphiggjgapaaiaaDoorKripke
import Derived.Lib.IndexLaws
namespace Go.Proofs.YtphiggjgapaaiaaDoor
open Go.RowKit
set_option linter.unusedVariables false

def asksK (k : Int) : Bool := decide (k = 2 ∨ k = 4 ∨ k = 5)
theorem asks_any (k : Int) (w : World) : Calls Tryd.prog 17 #[.int .i64 k] w fun e w' => e = .returned (.bool (asksK k)) ∧ w = w' := by
  go_enter Tryd.func17, Tryd.ntmps17
  go_wp2_with fail
  all_goals go_ret
  all_goals exact ⟨ret_bool (by unfold asksK; rw [Bool.eq_iff_iff]; simp [*]), rfl⟩
/-- A number's wider type. -/
def wideT (t : Int) : Int := if t = 3 then 1 else if t = 1 then 2 else t

set_option maxRecDepth 100000 in
theorem wider_any (t i : Int) (s : ByteArray) (w : World) : Calls Tryd.prog 22 #[.agg #[.int .i64 t, .int .i64 i, .string s]] w fun e w' => e = .returned (.agg #[.int .i64 (wideT t), .int .i64 i, .string s]) ∧ Later w w' := by
  have HL := Lib.hid (fun (o o' : Obj) => (Later.new w o).alloc o')
  by_cases h3 : t = 3
  · subst h3
    go_enter Tryd.func22, Tryd.ntmps22
    go_wp2_with fail
    exact bodyPost_ret (v := .agg #[.int .i64 1, .int .i64 i, .string s]) (by simp [results, Tryd.results22, go_sem]) rfl ⟨rfl, HL.out _ _⟩
  · by_cases h1 : t = 1
    · subst h1
      go_enter Tryd.func22, Tryd.ntmps22
      go_wp2_with fail
      exact bodyPost_ret (v := .agg #[.int .i64 2, .int .i64 i, .string s]) (by simp [results, Tryd.results22, go_sem]) rfl ⟨rfl, HL.out _ _⟩
    · have HW := Lib.hid (show wideT t = t from by unfold wideT; rw [if_neg h3, if_neg h1])
      have e3 : (t == 3) = false := by simp [h3]
      have e1 : (t == 1) = false := by simp [h1]
      clear h3 h1
      go_enter Tryd.func22, Tryd.ntmps22
      go_wp2_with fail
      rw [HW.out]
      exact bodyPost_ret (v := .agg #[.int .i64 t, .int .i64 i, .string s]) (by simp [results, Tryd.results22, go_sem]) rfl ⟨rfl, HL.out _ _⟩
/-- What is ahead of the first separator, and behind it. -/
def cutV (x : Val3) (c : Nat) : Val3 × Val3 :=
  if x.1 = 4 ∧ 0 ≤ Lib.indexByte x.2.2.data.toList c.toUInt8 then ((4, 0, x.2.2.extract 0 (Lib.indexByte x.2.2.data.toList c.toUInt8).toNat), (4, 0, x.2.2.extract ((Lib.indexByte x.2.2.data.toList c.toUInt8).toNat + 1) x.2.2.size)) else (x, (0, 0, ⟨#[]⟩))
def CutP (p : Val3 × Val3) (w : World) (e : Ending) (w' : World) : Prop :=
  e = .returned (.tuple #[.agg #[.int .i64 p.1.1, .int .i64 p.1.2.1, .string p.1.2.2], .agg #[.int .i64 p.2.1, .int .i64 p.2.2.1, .string p.2.2.2]]) ∧ Later w w'

set_option maxRecDepth 100000 in
set_option maxHeartbeats 1000000 in
theorem cut_any (t i : Int) (s : ByteArray) (c : Nat) (w : World) (hc : c < 256) (hs : s.size ≤ 1000) : Calls Tryd.prog 20 #[.agg #[.int .i64 t, .int .i64 i, .string s], .int .u8 c] w (CutP (cutV (t, i, s) c) w) := by
  have HL := Lib.hid (fun (o o' o2 : Obj) => ((Later.new w o).alloc o').alloc o2)
  have HI := Lib.hid (fun W => Tryd.strings_IndexByte s (c : Int) W)
  have hcc : (c : Int).toNat = c := by omega
  rw [hcc] at HI
  have hge := Lib.indexByte_ge s.data.toList c.toUInt8
  obtain ⟨z, hz⟩ : ∃ z, Lib.indexByte s.data.toList c.toUInt8 = z := ⟨_, rfl⟩
  have HLT := Lib.hid (show 0 ≤ z → z < s.size from fun h => by
    have h1 := (Lib.indexByte_some (l := s.data.toList) (c := c.toUInt8) (o := z.toNat) (by rw [hz]; omega)).1
    have h2 := (List.getElem?_eq_some_iff.1 h1).1
    rw [Array.length_toList] at h2
    have h3 : s.data.size = s.size := rfl
    omega)
  have HZ := Lib.hid hz
  rw [hz] at HI hge
  clear hz hcc
  by_cases h4 : t = 4
  · by_cases h0 : z < 0
    · have HW := Lib.hid (show cutV (t, i, s) c = ((t, i, s), (0, 0, ⟨#[]⟩)) from by unfold cutV; rw [if_neg]; rintro ⟨_, h⟩; dsimp only at h; rw [HZ.out] at h; omega)
      subst h4
      go_enter Tryd.func20, Tryd.ntmps20
      go_wp2_with fail
      refine (HI.out _).mono ?_
      rintro e w' ⟨rfl, rfl⟩
      go_wp2_with fail
      rw [HW.out]
      exact bodyPost_ret (v := .tuple #[.agg #[.int .i64 4, .int .i64 i, .string s], .agg #[.int .i64 0, .int .i64 0, .string ⟨#[]⟩]]) (by simp [results, Tryd.results20, go_sem]) rfl ⟨rfl, HL.out _ _ _⟩
    · have hzn : 0 ≤ z := by omega
      obtain ⟨k, rfl⟩ := Int.eq_ofNat_of_zero_le hzn
      have hk : k < s.size := by have := HLT.out hzn; omega
      have HW := Lib.hid (show cutV (t, i, s) c = ((4, 0, s.extract 0 k), (4, 0, s.extract (k + 1) s.size)) from by
        unfold cutV; rw [if_pos ⟨h4, by dsimp only; rw [HZ.out]; exact hzn⟩, HZ.out]; rfl)
      subst h4
      have hwk : IntKind.i64.wrap ((k : Int) + 1) = (k : Int) + 1 := IntWalk.i64_in _ ⟨by omega, by omega⟩
      clear hzn h0 hge HLT HZ
      go_enter Tryd.func20, Tryd.ntmps20
      go_wp2_with fail
      refine (HI.out _).mono ?_
      rintro e w' ⟨rfl, rfl⟩
      go_wp2_with fail
      have hk1 : k ≤ s.size := by omega
      have hk2 : 0 ≤ (k : Int) + 1 ∧ (k : Int) + 1 ≤ (s.size : Int) := by omega
      obtain ⟨h0, hh0⟩ : ∃ x, w.heap.size = x := ⟨_, rfl⟩
      obtain ⟨W, hW⟩ : ∃ x : World, ((w.alloc (.cells #[.int .i64 4, .int .i64 i, .string s] 29)).alloc (.cells #[.int .i64 0, .int .i64 0, .string ⟨#[]⟩] 29)).alloc (.cells #[.int .i64 0, .int .i64 0, .string ⟨#[]⟩] 29) = x := ⟨_, rfl⟩
      have b0 : Blk W h0 #[.int .i64 4, .int .i64 i, .string s] 29 := hW ▸ ((Blk.new w _ _ _ hh0.symm).later (Later.new _ _)).later (Later.new _ _)
      have b1 : Blk W (h0 + 1) #[.int .i64 0, .int .i64 0, .string ⟨#[]⟩] 29 := hW ▸ (Blk.new _ _ _ _ (by simp; omega)).later (Later.new _ _)
      have b2 : Blk W (h0 + 2) #[.int .i64 0, .int .i64 0, .string ⟨#[]⟩] 29 := hW ▸ Blk.new _ _ _ _ (by simp; omega)
      have HLW := Lib.hid (show Later w W from hW ▸ HL.out _ _ _)
      rw [hh0, hW, show h0 + 1 + 1 = h0 + 2 from rfl]
      refine wp_region_K (S := fun W : World => W.cell? ⟨h0, 2, none⟩ = some (.string s)) (R := fun a b => a = b) (fun _ => rfl) (by kernel_rfl) ?_
      obtain ⟨wd, hwd⟩ : ∃ x, W.drew = x := ⟨_, rfl⟩
      have ld : Later W wd := hwd ▸ (Later.refl W).drew
      rw [hwd]
      have hS : (fun W : World => W.cell? ⟨h0, 2, none⟩ = some (.string s)) wd := (b0.later ld).cell 2 _ rfl
      have c1 := b1.later ld
      have c2 := b2.later ld
      have HLD := Lib.hid (HLW.out.trans ld)
      have x0 := c1.cell 0 _ rfl
      have x1 := c1.cell 1 _ rfl
      have x2 := c1.cell 2 _ rfl
      have f0 := c1.frozen 0
      have f1 := c1.frozen 1
      have f2 := c1.frozen 2
      have C1 := Lib.hid (three_blk c1 rfl (.int .i64 4) (.int .i64 0) (.string (s.extract 0 k)))
      have hb9 : Below (h0 + 1) wd (((wd.setCell ⟨h0 + 1, 0, none⟩ (.int .i64 4)).setCell ⟨h0 + 1, 1, none⟩ (.int .i64 0)).setCell ⟨h0 + 1, 2, none⟩ (.string (s.extract 0 k))) := (((Below.refl _ _).setCell (p := ⟨h0 + 1, 0, none⟩) (Nat.le_refl _) _).setCell (p := ⟨h0 + 1, 1, none⟩) (Nat.le_refl _) _).setCell (p := ⟨h0 + 1, 2, none⟩) (Nat.le_refl _) _
      have HB9 := Lib.hid hb9
      have C2 := Lib.hid (show Blk (((wd.setCell ⟨h0 + 1, 0, none⟩ (.int .i64 4)).setCell ⟨h0 + 1, 1, none⟩ (.int .i64 0)).setCell ⟨h0 + 1, 2, none⟩ (.string (s.extract 0 k))) (h0 + 2) #[.int .i64 0, .int .i64 0, .string ⟨#[]⟩] 29 from
        ((c2.far (p := ⟨h0 + 1, 0, none⟩) (by show h0 + 2 ≠ h0 + 1; omega) _).far (p := ⟨h0 + 1, 1, none⟩) (by show h0 + 2 ≠ h0 + 1; omega) _).far (p := ⟨h0 + 1, 2, none⟩) (by show h0 + 2 ≠ h0 + 1; omega) _)
      clear hwd ld hW b0 b1 b2 c1 c2 hb9
      refine wpAnyK_take (fun _ => rfl) (fun _ _ _ h k => h.trans k) (fun _ _ h k => k ▸ h) (i := 0) (oi := { dst := some 20, op := _, type := _, pos := _, after := _, guard := _ }) (v := ?_) rfl (by kernel_rfl) (by kernel_rfl) (by kernel_rfl) (fun _ _ _ h => h) (Or.inl (Or.inl ⟨by rfl, ?_⟩)) hS ?_
      rotate_left
      focus ((intro w hSw; (try dsimp only at hSw); skip; go_simp); (try with_reducible rfl))
      intro wq hwq
      subst hwq
      (try simp only [Act.put, List.setIfInBounds_toArray, List.set_cons_zero, List.set_cons_succ])
      refine wpAnyK_take (fun _ => rfl) (fun _ _ _ h k => h.trans k) (fun _ _ h k => k ▸ h) (i := 1) (oi := { dst := some 21, op := _, type := _, pos := _, after := _, guard := _ }) (v := ?_) rfl (by kernel_rfl) (by kernel_rfl) (by kernel_rfl) (fun _ _ _ h => h) (Or.inl (Or.inl ⟨by rfl, ?_⟩)) hS ?_
      rotate_left
      focus ((intro w hSw; (try dsimp only at hSw); skip; go_simp); (try with_reducible rfl))
      intro wq hwq
      subst hwq
      (try simp only [Act.put, List.setIfInBounds_toArray, List.set_cons_zero, List.set_cons_succ])
      refine wpAnyK_take (fun _ => rfl) (fun _ _ _ h k => h.trans k) (fun _ _ h k => k ▸ h) (i := 2) (oi := { dst := some 22, op := _, type := _, pos := _, after := _, guard := _ }) (v := ?_) rfl (by kernel_rfl) (by kernel_rfl) (by kernel_rfl) (fun _ _ _ h => h) (Or.inl (Or.inl ⟨by rfl, ?_⟩)) hS ?_
      rotate_left
      focus ((intro w hSw; (try dsimp only at hSw); skip; go_simp); (try with_reducible rfl))
      intro wq hwq
      subst hwq
      (try simp only [Act.put, List.setIfInBounds_toArray, List.set_cons_zero, List.set_cons_succ])
      refine wpAnyK_take (fun _ => rfl) (fun _ _ _ h k => h.trans k) (fun _ _ h k => k ▸ h) (i := 3) (oi := { dst := some 23, op := _, type := _, pos := _, after := _, guard := _ }) (v := ?_) rfl (by kernel_rfl) (by kernel_rfl) (by kernel_rfl) (fun _ _ _ h => h) (Or.inl (Or.inl ⟨by rfl, ?_⟩)) hS ?_
      rotate_left
      focus ((intro w hSw; (try dsimp only at hSw); skip; go_simp; (try rw [if_pos hk1]); (try rw [if_pos hk2])); (try with_reducible rfl))
      intro wq hwq
      subst hwq
      (try simp only [Act.put, List.setIfInBounds_toArray, List.set_cons_zero, List.set_cons_succ])
      refine wpAnyK_take (fun _ => rfl) (fun _ _ _ h k => h.trans k) (fun _ _ h k => k ▸ h) (i := 4) (oi := { dst := some 24, op := _, type := _, pos := _, after := _, guard := _ }) (v := ?_) rfl (by kernel_rfl) (by kernel_rfl) (by kernel_rfl) (fun _ _ _ h => h) (Or.inl (Or.inl ⟨by rfl, ?_⟩)) hS ?_
      rotate_left
      focus ((intro w hSw; (try dsimp only at hSw); skip; go_simp); (try with_reducible rfl))
      intro wq hwq
      subst hwq
      (try simp only [Act.put, List.setIfInBounds_toArray, List.set_cons_zero, List.set_cons_succ])
      refine wpAnyK_take (fun _ => rfl) (fun _ _ _ h k => h.trans k) (fun _ _ h k => k ▸ h) (i := 5) (oi := { dst := some 25, op := _, type := _, pos := _, after := _, guard := _ }) (v := ?_) rfl (by kernel_rfl) (by kernel_rfl) (by kernel_rfl) (fun _ _ _ h => h) (Or.inl (Or.inl ⟨by rfl, ?_⟩)) hS ?_
      rotate_left
      focus ((intro w hSw; (try dsimp only at hSw); skip; go_simp); (try with_reducible rfl))
      intro wq hwq
      subst hwq
      (try simp only [Act.put, List.setIfInBounds_toArray, List.set_cons_zero, List.set_cons_succ])
      refine wpAnyK_take (fun _ => rfl) (fun _ _ _ h k => h.trans k) (fun _ _ h k => k ▸ h) (i := 6) (oi := { dst := some 26, op := _, type := _, pos := _, after := _, guard := _ }) (v := ?_) rfl (by kernel_rfl) (by kernel_rfl) (by kernel_rfl) (fun _ _ _ h => h) (Or.inl (Or.inl ⟨by rfl, ?_⟩)) hS ?_
      rotate_left
      focus ((intro w hSw; (try dsimp only at hSw); skip; go_simp); (try with_reducible rfl))
      intro wq hwq
      subst hwq
      (try simp only [Act.put, List.setIfInBounds_toArray, List.set_cons_zero, List.set_cons_succ])
      refine wpAnyK_take (fun _ => rfl) (fun _ _ _ h k => h.trans k) (fun _ _ h k => k ▸ h) (i := 7) (oi := { dst := some 27, op := _, type := _, pos := _, after := _, guard := _ }) (v := ?_) rfl (by kernel_rfl) (by kernel_rfl) (by kernel_rfl) (fun _ _ _ h => h) (Or.inl (Or.inl ⟨by rfl, ?_⟩)) hS ?_
      rotate_left
      focus ((intro w hSw; (try dsimp only at hSw); skip; go_simp); (try with_reducible rfl))
      intro wq hwq
      subst hwq
      (try simp only [Act.put, List.setIfInBounds_toArray, List.set_cons_zero, List.set_cons_succ])
      refine wpAnyK_take (fun _ => rfl) (fun _ _ _ h k => h.trans k) (fun _ _ h k => k ▸ h) (i := 8) (oi := { dst := some 28, op := _, type := _, pos := _, after := _, guard := _ }) (v := ?_) rfl (by kernel_rfl) (by kernel_rfl) (by kernel_rfl) (fun _ _ _ h => h) (Or.inl (Or.inl ⟨by rfl, ?_⟩)) hS ?_
      rotate_left
      focus ((intro w hSw; (try dsimp only at hSw); skip; go_simp); (try with_reducible rfl))
      intro wq hwq
      subst hwq
      (try simp only [Act.put, List.setIfInBounds_toArray, List.set_cons_zero, List.set_cons_succ])
      refine wpAnyK_take (fun _ => rfl) (fun _ _ _ h k => h.trans k) (fun _ _ h k => k ▸ h) (i := 9) (oi := { dst := some 29, op := _, type := _, pos := _, after := _, guard := _ }) (v := ?_) rfl (by kernel_rfl) (by kernel_rfl) (by kernel_rfl) (fun _ _ _ h => h) (Or.inl (Or.inl ⟨by rfl, ?_⟩)) hS ?_
      rotate_left
      focus ((intro w hSw; (try dsimp only at hSw); skip; go_simp; (try rw [if_pos hk1]); (try rw [if_pos hk2])); (try with_reducible rfl))
      intro wq hwq
      subst hwq
      (try simp only [Act.put, List.setIfInBounds_toArray, List.set_cons_zero, List.set_cons_succ])
      refine wpAnyK_take (fun _ => rfl) (fun _ _ _ h k => h.trans k) (fun _ _ h k => k ▸ h) (i := 10) (oi := { dst := some 30, op := _, type := _, pos := _, after := _, guard := _ }) (v := ?_) rfl (by kernel_rfl) (by kernel_rfl) (by kernel_rfl) (fun _ _ _ h => h) (Or.inl (Or.inl ⟨by rfl, ?_⟩)) hS ?_
      rotate_left
      focus ((intro w hSw; (try dsimp only at hSw); skip; go_simp); (try with_reducible rfl))
      intro wq hwq
      subst hwq
      (try simp only [Act.put, List.setIfInBounds_toArray, List.set_cons_zero, List.set_cons_succ])
      refine wpAnyK_all (rs := [11]) (by kernel_rfl) (by simp) (fun i hi => ?_)
      simp only [List.mem_cons, List.not_mem_nil, or_false] at hi
      subst hi
      refine stepK (o := { dst := none, op := _, type := _, pos := _, after := _, guard := _ }) rfl (fun K hK => ?_)
      go_simp
      obtain ⟨w9, hw9⟩ : ∃ x : World, (((wd.setCell ⟨h0 + 1, 0, none⟩ (.int .i64 4)).setCell ⟨h0 + 1, 1, none⟩ (.int .i64 0)).setCell ⟨h0 + 1, 2, none⟩ (.string (s.extract 0 k))) = x := ⟨_, rfl⟩
      rw [hw9] at C1 HB9 C2 ⊢
      replace hS : (fun W : World => W.cell? ⟨h0, 2, none⟩ = some (.string s)) w9 := (HB9.out.cell (p := ⟨h0, 2, none⟩) (Nat.lt_succ_self _)).trans hS
      refine hK _ _ hS fun wq hwq => ?_
      subst hwq
      clear hK hw9 x0 x1 x2 f0 f1 f2
      (try simp only [Act.put, List.setIfInBounds_toArray, List.set_cons_zero, List.set_cons_succ])
      refine wpAnyK_all (rs := [12]) (by kernel_rfl) (by simp) (fun i hi => ?_)
      simp only [List.mem_cons, List.not_mem_nil, or_false] at hi
      subst hi
      refine stepK (o := { dst := none, op := _, type := _, pos := _, after := _, guard := _ }) rfl (fun K hK => ?_)
      have c2 := C2.out
      have x0 := c2.cell 0 _ rfl
      have x1 := c2.cell 1 _ rfl
      have x2 := c2.cell 2 _ rfl
      have f0 := c2.frozen 0
      have f1 := c2.frozen 1
      have f2 := c2.frozen 2
      have C3 := Lib.hid (three_blk c2 rfl (.int .i64 4) (.int .i64 0) (.string (s.extract (k + 1) s.size)))
      have C4 := Lib.hid (show Blk (((w9.setCell ⟨h0 + 2, 0, none⟩ (.int .i64 4)).setCell ⟨h0 + 2, 1, none⟩ (.int .i64 0)).setCell ⟨h0 + 2, 2, none⟩ (.string (s.extract (k + 1) s.size))) (h0 + 1) #[.int .i64 4, .int .i64 0, .string (s.extract 0 k)] 29 from
        ((C1.out.far (p := ⟨h0 + 2, 0, none⟩) (by show h0 + 1 ≠ h0 + 2; omega) _).far (p := ⟨h0 + 2, 1, none⟩) (by show h0 + 1 ≠ h0 + 2; omega) _).far (p := ⟨h0 + 2, 2, none⟩) (by show h0 + 1 ≠ h0 + 2; omega) _)
      have HLZ := Lib.hid (show Later w (((w9.setCell ⟨h0 + 2, 0, none⟩ (.int .i64 4)).setCell ⟨h0 + 2, 1, none⟩ (.int .i64 0)).setCell ⟨h0 + 2, 2, none⟩ (.string (s.extract (k + 1) s.size))) from
        three_later (Later.of (HLD.out.below.trans (HB9.out.mono (by omega)))) (by omega) _ _ _)
      clear c2 C2 C1 HB9 HLD
      go_simp
      obtain ⟨wz, hwz⟩ : ∃ x : World, (((w9.setCell ⟨h0 + 2, 0, none⟩ (.int .i64 4)).setCell ⟨h0 + 2, 1, none⟩ (.int .i64 0)).setCell ⟨h0 + 2, 2, none⟩ (.string (s.extract (k + 1) s.size))) = x := ⟨_, rfl⟩
      have hb3 : Below (h0 + 1) w9 (((w9.setCell ⟨h0 + 2, 0, none⟩ (.int .i64 4)).setCell ⟨h0 + 2, 1, none⟩ (.int .i64 0)).setCell ⟨h0 + 2, 2, none⟩ (.string (s.extract (k + 1) s.size))) := (((Below.refl _ _).setCell (p := ⟨h0 + 2, 0, none⟩) (by show h0 + 1 ≤ h0 + 2; omega) _).setCell (p := ⟨h0 + 2, 1, none⟩) (by show h0 + 1 ≤ h0 + 2; omega) _).setCell (p := ⟨h0 + 2, 2, none⟩) (by show h0 + 1 ≤ h0 + 2; omega) _
      rw [hwz] at C3 C4 HLZ hb3 ⊢
      replace hS : (fun W : World => W.cell? ⟨h0, 2, none⟩ = some (.string s)) wz := (hb3.cell (p := ⟨h0, 2, none⟩) (Nat.lt_succ_self _)).trans hS
      refine hK _ _ hS fun wq hwq => ?_
      subst hwq
      clear hK hwz hb3 x0 x1 x2 f0 f1 f2
      (try simp only [Act.put, List.setIfInBounds_toArray, List.set_cons_zero, List.set_cons_succ])
      refine wpAnyK_done (by kernel_rfl) ?_ _
      clear hS
      go_wp2_with fail
      have x0 := C4.out.cell 0 _ rfl
      have x1 := C4.out.cell 1 _ rfl
      have x2 := C4.out.cell 2 _ rfl
      have y0 := C3.out.cell 0 _ rfl
      have y1 := C3.out.cell 1 _ rfl
      have y2 := C3.out.cell 2 _ rfl
      rw [HW.out]
      exact bodyPost_ret (v := .tuple #[.agg #[.int .i64 4, .int .i64 0, .string (s.extract 0 k)], .agg #[.int .i64 4, .int .i64 0, .string (s.extract (k + 1) s.size)]]) (by simp [results, Tryd.results20, go_sem, x0, x1, x2, y0, y1, y2]) rfl ⟨rfl, HLZ.out⟩
  · have HW := Lib.hid (show cutV (t, i, s) c = ((t, i, s), (0, 0, ⟨#[]⟩)) from by unfold cutV; rw [if_neg]; rintro ⟨h, _⟩; exact h4 h)
    have e4 : (t != 4) = true := by simp [h4]
    clear h4
    go_enter Tryd.func20, Tryd.ntmps20
    go_wp2_with fail
    refine (HI.out _).mono ?_
    rintro e w' ⟨rfl, rfl⟩
    go_wp2_with fail
    rw [HW.out]
    exact bodyPost_ret (v := .tuple #[.agg #[.int .i64 t, .int .i64 i, .string s], .agg #[.int .i64 0, .int .i64 0, .string ⟨#[]⟩]]) (by simp [results, Tryd.results20, go_sem]) rfl ⟨rfl, HL.out _ _ _⟩
end Go.Proofs.YtphiggjgapaaiaaDoor
