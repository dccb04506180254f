/- The walk of PredForms. -/
import Derived.Test.YteiabachilpciaaDoorPred0
import Derived.Test.YteiabachilpciaaDoorLits
import Derived.Test.YteiabachilpciaaDoorFam
namespace Go.Proofs.YteiabachilpciaaDoor
open Go.RowKit
set_option linter.unusedVariables false

abbrev sI : ByteArray := ⟨#[105]⟩
abbrev sT : ByteArray := ⟨#[116]⟩
abbrev sX : ByteArray := ⟨#[120]⟩
abbrev sB : ByteArray := ⟨#[98]⟩
abbrev s0 : ByteArray := ⟨#[]⟩
def cF : List Col3 := [(1, sI, 2), (2, sT, 4)]
abbrev oneF : Val3 := (2, 1, s0)
abbrev twoF : Val3 := (1, 2, s0)
abbrev bF : Val3 := (4, 0, sB)
def rF : List Val3 := [oneF, (0, 0, s0)]
abbrev T1 (n : ByteArray) (op : Int) (v : Val3) (o nt : Bool) : Tst := ⟨n, op, v, o, nt⟩
abbrev no3 : Val3 := (0, 0, s0)
def lotsF : List (List Tst) := [[T1 sI 1 oneF false false], [T1 sI 3 twoF false false], [T1 sI 2 oneF false false], [T1 sT 1 bF false false], [T1 sT 7 no3 false false], [T1 sT 8 no3 false false], [T1 sT 8 no3 false true], [T1 sT 2 bF false true], [T1 sI 1 no3 false false],
  [T1 sI 1 twoF false false, T1 sT 1 bF true false], [T1 sI 1 oneF false false, T1 sT 1 bF false false], [T1 sI 1 twoF false false, T1 sT 1 bF false false], [T1 sT 1 bF false false, T1 sI 1 twoF false false, T1 sI 1 oneF true false], [T1 sI 1 oneF true false]]
def wantF : List Int := [2, 2, 0, 1, 2, 0, 2, 1, 1, 1, 1, 0, 2, 2]
def outF (g : Nat) : Nat → List (List Tst) → List Value
  | _, [] => []
  | k, l :: r => .slice (some ⟨g + k, 0, none⟩) l.length l.length :: outF g (k + 1) r
def objsF (g : Nat) : List Obj :=
  [.cells (fc cF).toArray 64, .cells #[.slice (some ⟨g, 0, none⟩) 2 2, .int .i64 2] 33, .cells #[.int .i64 2, .int .i64 1, .string s0] 26, .cells #[.int .i64 1, .int .i64 2, .string s0] 26, .cells #[.int .i64 4, .int .i64 0, .string sB] 26, .cells (fl rF).toArray 26] ++
  (lotsF.map fun l => .cells (ft l).toArray 28) ++ [.cells (outF g 6 lotsF).toArray 23, .cells (wantF.map (Value.int .i64)).toArray 3]
theorem tableF : ∀ k, k < 14 → checkT cF (lotsF.getD k []) = 0 ∧ rowT cF (lotsF.getD k []) rF = wantF.getD k 0 := by decide +kernel
theorem outF_get (g : Nat) : ∀ (L : List (List Tst)) (i k : Nat), k < L.length → (outF g i L)[k]? = some (.slice (some ⟨g + (i + k), 0, none⟩) (L.getD k []).length (L.getD k []).length)
  | l :: r, i, 0, _ => by simp [outF]
  | l :: r, i, k + 1, h => by
    have := outF_get g r (i + 1) k (by simpa using h)
    simp only [outF, List.getElem?_cons_succ, this, List.getD_cons_succ]
    rw [show i + 1 + k = i + (k + 1) by omega]
theorem objsF_lot (g k : Nat) (h : k < 14) : (objsF g)[6 + k]? = some (.cells (ft (lotsF.getD k [])).toArray 28) := by
  obtain rfl | rfl | rfl | rfl | rfl | rfl | rfl | rfl | rfl | rfl | rfl | rfl | rfl | rfl : k = 0 ∨ k = 1 ∨ k = 2 ∨ k = 3 ∨ k = 4 ∨ k = 5 ∨ k = 6 ∨ k = 7 ∨ k = 8 ∨ k = 9 ∨ k = 10 ∨ k = 11 ∨ k = 12 ∨ k = 13 := by omega
  all_goals rfl

def badOf : Nat → List Tst
  | 0 => List.replicate 9 (T1 s0 0 no3 false false)
  | 2 => [T1 sI 0 no3 false false]
  | 4 => [T1 sI 9 no3 false false]
  | 7 => [T1 sI 1 (9, 0, s0) false false]
  | 9 => [T1 sX 7 no3 false false]
  | 12 => [T1 sI 1 bF false false]
  | 15 => [T1 sT 1 oneF false false]
  | 18 => [T1 sX 7 no3 false false, T1 sI 0 no3 false false]
  | _ => []
def badL : List (List Tst) := [badOf 0, badOf 2, badOf 4, badOf 7, badOf 9, badOf 12, badOf 15, badOf 18]
def errsL : List Int := [1, 1, 1, 1, 3, 4, 4, 1]
theorem tableB : ∀ k, k < 8 → checkT cF (badL.getD k []) = errsL.getD k 0 := by decide +kernel
theorem lenB : ∀ k, k < 8 → (badL.getD k []).length ≤ 9 := by decide +kernel
def uF : List Tst := [T1 sI 7 bF false false]
theorem info_t : (Tryd.prog.info? 28).map (fun i => (i.zero, i.size, i.bytes)) = some (some (tagg s0 0 0 0 s0 false false), 7, 64) := by kernel_rfl
theorem makeT9 (w : World) : (Instr.makeSlice 23 (.int .i64 9) (.int .i64 9)).run Tryd.prog w = .ok (.slice (some ⟨w.heap.size, 0, none⟩) 9 9) (w.alloc (.cells (ft (badOf 0)).toArray 28)) := by
  obtain ⟨i, hi, hzz⟩ := Option.map_eq_some_iff.1 info_t
  simp only [Prod.mk.injEq] at hzz
  obtain ⟨hz, hs, hb⟩ := hzz
  have hr := run_make (P := Tryd.prog) w 23 28 i _ Tryd.underlying23 hi hz .i64 .i64 9 9 (by omega) (Int.le_refl _) (by rw [hb]; omega) (by omega)
  rw [hr, hs]
  exact congrArg (fun cs => Result.ok (Value.slice (some ⟨w.heap.size, 0, none⟩) 9 9) (w.alloc (.cells cs 28))) (show madeCells (tagg s0 0 0 0 s0 false false).cells 63 = (ft (badOf 0)).toArray by kernel_rfl)

set_option maxRecDepth 100000 in
set_option maxHeartbeats 8000000 in
theorem predForms_walk (w : World) (hg : ErrT w) (hs : S3 w) : Calls Tryd.prog 5 #[] w fun e w' => e = .returned (.bool true) ∧ Later w w' := by
  have HB := Lib.hid (begun23_any w hg hs)
  have HG := Lib.hid hg
  have HS := Lib.hid hs
  clear hg hs
  go_enter Tryd.func5, Tryd.ntmps5
  go_wp2_with fail
  refine HB.out.mono ?_
  rintro e w1 ⟨rfl, l1⟩
  have HL1 := Lib.hid l1
  clear l1 HB
  go_wp2_with fail
  obtain ⟨g, hgz⟩ : ∃ g, w1.heap.size = g := ⟨_, rfl⟩
  rw [hgz]
  change Code.wp _ _ _ _ (wLits w1 (objsF g))
  obtain ⟨w2, hw2⟩ : ∃ x, wLits w1 (objsF g) = x := ⟨_, rfl⟩
  have l2 : Later w1 w2 := hw2 ▸ wLits_later _ _
  have C : Has w2 (some ⟨g, 0, none⟩) (fc cF) := hw2 ▸ (wLits_blk hgz 0 (L := objsF g) (cs := (fc cF).toArray) (t := 64) rfl).has
  have B1 : Blk w2 (g + 1) #[.slice (some ⟨g, 0, none⟩) 2 2, .int .i64 2] 33 := hw2 ▸ wLits_blk hgz 1 rfl
  have RR : Has w2 (some ⟨g + 5, 0, none⟩) (fl rF) := hw2 ▸ (wLits_blk hgz 5 (L := objsF g) (cs := (fl rF).toArray) (t := 26) rfl).has
  have VB : Blk w2 (g + 4) #[.int .i64 4, .int .i64 0, .string sB] 26 := hw2 ▸ wLits_blk hgz 4 rfl
  have V1 : Blk w2 (g + 2) #[.int .i64 2, .int .i64 1, .string s0] 26 := hw2 ▸ wLits_blk hgz 2 rfl
  have OO : Blk w2 (g + 20) (outF g 6 lotsF).toArray 23 := hw2 ▸ wLits_blk hgz 20 rfl
  have WW : Blk w2 (g + 21) (wantF.map (Value.int .i64)).toArray 3 := hw2 ▸ wLits_blk hgz 21 rfl
  have LL : ∀ k, k < 14 → Has w2 (some ⟨g + (6 + k), 0, none⟩) (ft (lotsF.getD k [])) := fun k hk => hw2 ▸ (wLits_blk hgz (6 + k) (L := objsF g) (objsF_lot g k hk)).has
  rw [hw2]
  have HC := Lib.hid C
  have HB1 := Lib.hid B1
  have HRR := Lib.hid RR
  have HVB := Lib.hid VB
  have HV1 := Lib.hid V1
  have HOO := Lib.hid OO
  have HWW := Lib.hid WW
  have HLL := Lib.hid LL
  have HL2 := Lib.hid (HL1.out.trans l2)
  clear C B1 RR VB V1 OO WW LL l2 hw2 hgz HL1
  go_loopw [8] (fun i wr => ∃ k : Nat, k ≤ 14 ∧ i = .int .i64 k ∧ Later w2 wr) (fun i _ => 14 - (intOf i).toNat)
  case atStart => exact ⟨0, by omega, rfl, Later.refl _⟩
  case round =>
    obtain ⟨k, hk, rfl, lat⟩ := hrel
    have HLAT := Lib.hid lat
    by_cases hlt : k < 14
    · obtain ⟨hck, hrw⟩ := tableF k hlt
      have T := HLL.out k hlt
      obtain ⟨lot, hlot⟩ : ∃ x, lotsF.getD k [] = x := ⟨_, rfl⟩
      obtain ⟨wv, hwv⟩ : ∃ x, wantF.getD k 0 = x := ⟨_, rfl⟩
      have oc := HOO.out.cell k (.slice (some ⟨g + (6 + k), 0, none⟩) lot.length lot.length) (by rw [List.getElem?_toArray, outF_get g lotsF 6 k hlt, hlot])
      have wc := HWW.out.cell k (.int .i64 wv) (by
        rw [List.getElem?_toArray, List.getElem?_map, ← hwv, List.getD_eq_getElem?_getD, List.getElem?_eq_getElem (show k < wantF.length from hlt)]; rfl)
      rw [hlot] at hck hrw T
      rw [hwv] at hrw
      have hll : lot.length ≤ 3 := by
        rw [← hlot]
        have : ∀ k, k < 14 → (lotsF.getD k []).length ≤ 3 := by decide +kernel
        exact this k hlt
      have HCK := Lib.hid (fun w' (l : Later w2 w') => predCheck2_any (some ⟨g, 0, none⟩) 2 2 2 cF (some ⟨g + (6 + k), 0, none⟩) lot.length lot.length lot w' (HG.out.later (HL2.out.trans l)) (HS.out.later (HL2.out.trans l)) rfl (by decide) (HC.out.later l) rfl (by omega) (T.later l))
      rw [hck] at HCK
      have HRW := Lib.hid (fun w' (l : Later w2 w') => predRow_any (some ⟨g, 0, none⟩) 2 2 2 cF (some ⟨g + (6 + k), 0, none⟩) lot.length lot.length lot (some ⟨g + 5, 0, none⟩) 2 2 rF w' rfl (by decide) (HC.out.later l) rfl (by omega) (T.later l) rfl (by decide) (HRR.out.later l))
      rw [hrw] at HRW
      generalize lot.length = ln at oc HCK HRW
      have hkk : (k : Int) < 14 := by omega
      have hk0 : (0 : Int) ≤ (k : Int) := by omega
      have bs := (HB1.out.later lat).drew
      have oc := ((show CellIs w2 ⟨g + 20, k, none⟩ (.slice (some ⟨g + (6 + k), 0, none⟩) ln ln) from oc).later lat).drew
      have wc := ((show CellIs w2 ⟨g + 21, k, none⟩ (.int .i64 wv) from wc).later lat).drew
      have lz := lat.drew
      clear lat hck hrw T hlot hwv hll
      go_wp2_with fail
      go_region_held3 (fun w' => w'.cell? ⟨g + 1, 0, none⟩ = some (.slice (some ⟨g, 0, none⟩) 2 2) ∧ w'.cell? ⟨g + 1, 1, none⟩ = some (.int .i64 2) ∧ w'.cell? ⟨g + 20, k, none⟩ = some (.slice (some ⟨g + (6 + k), 0, none⟩) ln ln) ∧ w'.cell? ⟨g + 21, k, none⟩ = some (.int .i64 wv)) (exact ⟨bs.cell 0 _ rfl, bs.cell 1 _ rfl, oc.out, wc.out⟩) (first
        | (go_at_call 13; refine (HCK.out _ lz).mono ?_; rintro e wX ⟨rfl, lX⟩; have lz := lz.trans lX; have bs := bs.later lX; have oc := oc.later lX; have wc := wc.later lX; clear lX)
        | (go_at_call 17; refine (HRW.out _ lz).mono ?_; rintro e wX ⟨rfl, lX⟩; have lz := lz.trans lX; have bs := bs.later lX; have oc := oc.later lX; have wc := wc.later lX; clear lX))
      clear HCK HRW
      all_goals go_wp2_with fail
      all_goals go_roundw
      all_goals first
        | exact ⟨k + 1, hlt, by go_num, lz⟩
        | (simp [intOf]; omega)
    · have hk14 : k = 14 := by omega
      subst hk14
      clear hk hlt
      go_wp2_with fail
      have HB1x := Lib.hid (HB1.out.later lat)
      have HVBx := Lib.hid (HVB.out.later lat)
      have HV1x := Lib.hid (HV1.out.later lat)
      have HLW := Lib.hid (HL2.out.trans lat)
      have HCx := Lib.hid (HC.out.later lat)
      clear HLAT lat HOO HWW HLL HRR HB1 HVB HV1 HC HL2
      refine wp_region_K (S := fun W => Later wr W) (R := Later) Later.refl (by kernel_rfl) ?_
      have hS : Later wr wr.drew := (Later.refl wr).drew
      refine wpAnyK_take Later.refl (fun _ _ _ h k => h.trans k) (fun _ _ h k => h.trans k) (i := 1) (oi := { dst := some 102, op := _, type := _, pos := _, after := _, guard := _ }) (v := ?_) rfl (by kernel_rfl) (by kernel_rfl) (by kernel_rfl) (fun _ _ _ h => h) (Or.inl (Or.inl ⟨by rfl, ?_⟩)) hS ?_
      rotate_left
      focus ((intro w hSw; (try dsimp only at hSw); go_simp); (try with_reducible rfl))
      intro wq hwq
      replace hS := hS.trans hwq
      (try simp only [Act.put, List.setIfInBounds_toArray, List.set_cons_zero, List.set_cons_succ])
      clear hwq
      refine wpAnyK_take Later.refl (fun _ _ _ h k => h.trans k) (fun _ _ h k => h.trans k) (i := 3) (oi := { dst := some 104, op := _, type := _, pos := _, after := _, guard := _ }) (v := ?_) rfl (by kernel_rfl) (by kernel_rfl) (by kernel_rfl) (fun _ _ _ h => h) (Or.inl (Or.inl ⟨by rfl, ?_⟩)) hS ?_
      rotate_left
      focus ((intro w hSw; (try dsimp only at hSw); go_simp); (try with_reducible rfl))
      intro wq hwq
      replace hS := hS.trans hwq
      (try simp only [Act.put, List.setIfInBounds_toArray, List.set_cons_zero, List.set_cons_succ])
      clear hwq
      refine wpAnyK_take Later.refl (fun _ _ _ h k => h.trans k) (fun _ _ h k => h.trans k) (i := 5) (oi := { dst := some 106, op := _, type := _, pos := _, after := _, guard := _ }) (v := ?_) rfl (by kernel_rfl) (by kernel_rfl) (by kernel_rfl) (fun _ _ _ h => h) (Or.inl (Or.inl ⟨by rfl, ?_⟩)) hS ?_
      rotate_left
      focus ((intro w hSw; (try dsimp only at hSw); go_simp); (try with_reducible rfl))
      intro wq hwq
      replace hS := hS.trans hwq
      (try simp only [Act.put, List.setIfInBounds_toArray, List.set_cons_zero, List.set_cons_succ])
      clear hwq
      refine wpAnyK_take Later.refl (fun _ _ _ h k => h.trans k) (fun _ _ h k => h.trans k) (i := 6) (oi := { dst := some 107, op := _, type := _, pos := _, after := _, guard := _ }) (v := ?_) rfl (by kernel_rfl) (by kernel_rfl) (by kernel_rfl) (fun _ _ _ h => h) (Or.inl (Or.inl ⟨by rfl, ?_⟩)) hS ?_
      rotate_left
      focus ((intro w hSw; (try dsimp only at hSw); go_simp); (try with_reducible rfl))
      intro wq hwq
      replace hS := hS.trans hwq
      (try simp only [Act.put, List.setIfInBounds_toArray, List.set_cons_zero, List.set_cons_succ])
      clear hwq
      refine wpAnyK_take Later.refl (fun _ _ _ h k => h.trans k) (fun _ _ h k => h.trans k) (i := 8) (oi := { dst := some 109, op := _, type := _, pos := _, after := _, guard := _ }) (v := ?_) rfl (by kernel_rfl) (by kernel_rfl) (by kernel_rfl) (fun _ _ _ h => h) (Or.inl (Or.inl ⟨by rfl, ?_⟩)) hS ?_
      rotate_left
      focus ((intro w hSw; (try dsimp only at hSw); go_simp); (try with_reducible rfl))
      intro wq hwq
      replace hS := hS.trans hwq
      (try simp only [Act.put, List.setIfInBounds_toArray, List.set_cons_zero, List.set_cons_succ])
      clear hwq
      refine wpAnyK_take Later.refl (fun _ _ _ h k => h.trans k) (fun _ _ h k => h.trans k) (i := 10) (oi := { dst := some 111, op := _, type := _, pos := _, after := _, guard := _ }) (v := ?_) rfl (by kernel_rfl) (by kernel_rfl) (by kernel_rfl) (fun _ _ _ h => h) (Or.inl (Or.inl ⟨by rfl, ?_⟩)) hS ?_
      rotate_left
      focus ((intro w hSw; (try dsimp only at hSw); have c0 := (show CellIs w ⟨g + 1 + 1 + 1 + 1, 0, none⟩ (.int .i64 4) from (HVBx.out.later hSw).cell 0 _ rfl).out; have c1 := (show CellIs w ⟨g + 1 + 1 + 1 + 1, 1, none⟩ (.int .i64 0) from (HVBx.out.later hSw).cell 1 _ rfl).out; have c2 := (show CellIs w ⟨g + 1 + 1 + 1 + 1, 2, none⟩ (.string sB) from (HVBx.out.later hSw).cell 2 _ rfl).out; go_simp); (try with_reducible rfl))
      intro wq hwq
      replace hS := hS.trans hwq
      (try simp only [Act.put, List.setIfInBounds_toArray, List.set_cons_zero, List.set_cons_succ])
      clear hwq
      refine wpAnyK_take Later.refl (fun _ _ _ h k => h.trans k) (fun _ _ h k => h.trans k) (i := 11) (oi := { dst := some 112, op := _, type := _, pos := _, after := _, guard := _ }) (v := ?_) rfl (by kernel_rfl) (by kernel_rfl) (by kernel_rfl) (fun _ _ _ h => h) (Or.inl (Or.inl ⟨by rfl, ?_⟩)) hS ?_
      rotate_left
      focus ((intro w hSw; (try dsimp only at hSw); go_simp); (try with_reducible rfl))
      intro wq hwq
      replace hS := hS.trans hwq
      (try simp only [Act.put, List.setIfInBounds_toArray, List.set_cons_zero, List.set_cons_succ])
      clear hwq
      refine wpAnyK_take Later.refl (fun _ _ _ h k => h.trans k) (fun _ _ h k => h.trans k) (i := 13) (oi := { dst := some 114, op := _, type := _, pos := _, after := _, guard := _ }) (v := ?_) rfl (by kernel_rfl) (by kernel_rfl) (by kernel_rfl) (fun _ _ _ h => h) (Or.inl (Or.inl ⟨by rfl, ?_⟩)) hS ?_
      rotate_left
      focus ((intro w hSw; (try dsimp only at hSw); have c0 := (show CellIs w ⟨g + 1 + 1, 0, none⟩ (.int .i64 2) from (HV1x.out.later hSw).cell 0 _ rfl).out; have c1 := (show CellIs w ⟨g + 1 + 1, 1, none⟩ (.int .i64 1) from (HV1x.out.later hSw).cell 1 _ rfl).out; have c2 := (show CellIs w ⟨g + 1 + 1, 2, none⟩ (.string s0) from (HV1x.out.later hSw).cell 2 _ rfl).out; go_simp); (try with_reducible rfl))
      intro wq hwq
      replace hS := hS.trans hwq
      (try simp only [Act.put, List.setIfInBounds_toArray, List.set_cons_zero, List.set_cons_succ])
      clear hwq
      refine wpAnyK_take Later.refl (fun _ _ _ h k => h.trans k) (fun _ _ h k => h.trans k) (i := 14) (oi := { dst := some 115, op := _, type := _, pos := _, after := _, guard := _ }) (v := ?_) rfl (by kernel_rfl) (by kernel_rfl) (by kernel_rfl) (fun _ _ _ h => h) (Or.inl (Or.inl ⟨by rfl, ?_⟩)) hS ?_
      rotate_left
      focus ((intro w hSw; (try dsimp only at hSw); go_simp); (try with_reducible rfl))
      intro wq hwq
      replace hS := hS.trans hwq
      (try simp only [Act.put, List.setIfInBounds_toArray, List.set_cons_zero, List.set_cons_succ])
      clear hwq
      refine wpAnyK_take Later.refl (fun _ _ _ h k => h.trans k) (fun _ _ h k => h.trans k) (i := 16) (oi := { dst := some 117, op := _, type := _, pos := _, after := _, guard := _ }) (v := ?_) rfl (by kernel_rfl) (by kernel_rfl) (by kernel_rfl) (fun _ _ _ h => h) (Or.inl (Or.inl ⟨by rfl, ?_⟩)) hS ?_
      rotate_left
      focus ((intro w hSw; (try dsimp only at hSw); go_simp); (try with_reducible rfl))
      intro wq hwq
      replace hS := hS.trans hwq
      (try simp only [Act.put, List.setIfInBounds_toArray, List.set_cons_zero, List.set_cons_succ])
      clear hwq
      refine wpAnyK_take Later.refl (fun _ _ _ h k => h.trans k) (fun _ _ h k => h.trans k) (i := 17) (oi := { dst := some 118, op := _, type := _, pos := _, after := _, guard := _ }) (v := ?_) rfl (by kernel_rfl) (by kernel_rfl) (by kernel_rfl) (fun _ _ _ h => h) (Or.inl (Or.inl ⟨by rfl, ?_⟩)) hS ?_
      rotate_left
      focus ((intro w hSw; (try dsimp only at hSw); go_simp); (try with_reducible rfl))
      intro wq hwq
      replace hS := hS.trans hwq
      (try simp only [Act.put, List.setIfInBounds_toArray, List.set_cons_zero, List.set_cons_succ])
      clear hwq
      refine wpAnyK_familyD (n := 8) (fuel := 2) Later.refl (fun _ _ _ h k => h.trans k) (fun _ _ h k => h.trans k) [(0, 101), (2, 103), (4, 105), (7, 108), (9, 110), (12, 113), (15, 116), (18, 119)] rfl (by decide) (by kernel_rfl) (by kernel_rfl) (by kernel_rfl) (ψ := fun i v W => ∃ b, v = .slice (some ⟨b, 0, none⟩) (badOf i).length (badOf i).length ∧ Blk W b (ft (badOf i)).toArray 28) (fun i v W W' h l => ⟨h.choose, h.choose_spec.1, h.choose_spec.2.later l⟩) ?_ hS ?_
      · intro i hi
        simp only [List.map_cons, List.map_nil, List.mem_cons, List.not_mem_nil, or_false] at hi
        rcases hi with rfl | rfl | rfl | rfl | rfl | rfl | rfl | rfl
        · refine ⟨_, rfl, rfl, fun w hSw => ⟨_, _, ?_, Later.new w (.cells (ft (badOf 0)).toArray 28), w.heap.size, rfl, Blk.new w _ _ _ rfl⟩⟩
          have hmk := makeT9 w
          go_simp
          first | done | rfl | (with_reducible rfl)
        all_goals
          refine ⟨_, rfl, rfl, fun w hSw => ⟨_, _, ?_, Later.new w (.cells (ft (badOf _)).toArray 28), w.heap.size, rfl, Blk.new w _ _ _ rfl⟩⟩
          go_simp
          first | exact ⟨rfl, rfl⟩ | rfl | (with_reducible rfl)
      intro vs wq hwq hSq hψ
      obtain ⟨b0, e0, B0⟩ := hψ 0 (by simp)
      obtain ⟨b1, e1, B1⟩ := hψ 2 (by simp)
      obtain ⟨b2, e2, B2⟩ := hψ 4 (by simp)
      obtain ⟨b3, e3, B3⟩ := hψ 7 (by simp)
      obtain ⟨b4, e4, B4⟩ := hψ 9 (by simp)
      obtain ⟨b5, e5, B5⟩ := hψ 12 (by simp)
      obtain ⟨b6, e6, B6⟩ := hψ 15 (by simp)
      obtain ⟨b7, e7, B7⟩ := hψ 18 (by simp)
      replace e0 : vs 0 = .slice (some ⟨b0, 0, none⟩) 9 9 := e0
      replace e1 : vs 2 = .slice (some ⟨b1, 0, none⟩) 1 1 := e1
      replace e2 : vs 4 = .slice (some ⟨b2, 0, none⟩) 1 1 := e2
      replace e3 : vs 7 = .slice (some ⟨b3, 0, none⟩) 1 1 := e3
      replace e4 : vs 9 = .slice (some ⟨b4, 0, none⟩) 1 1 := e4
      replace e5 : vs 12 = .slice (some ⟨b5, 0, none⟩) 1 1 := e5
      replace e6 : vs 15 = .slice (some ⟨b6, 0, none⟩) 1 1 := e6
      replace e7 : vs 18 = .slice (some ⟨b7, 0, none⟩) 2 2 := e7
      clear hψ hwq
      replace hS := hSq
      simp only [putFam, List.foldl_cons, List.foldl_nil, e0, e1, e2, e3, e4, e5, e6, e7]
      (try simp only [Act.put, List.setIfInBounds_toArray, List.set_cons_zero, List.set_cons_succ])
      refine wpAnyK_all (rs := [19]) (by kernel_rfl) (by simp) (fun i hi => ?_)
      simp only [List.mem_cons, List.not_mem_nil, or_false] at hi
      subst hi
      refine stepK (o := { dst := some 120, op := _, type := _, pos := _, after := _, guard := _ }) rfl (fun K hK => ?_)
      go_simp
      refine hK _ _ (hS.alloc _) (fun wy hy => ?_)
      obtain ⟨go, hgo⟩ : ∃ x, wq.heap.size = x := ⟨_, rfl⟩
      have BO := (Blk.new wq #[.slice (some ⟨b0, 0, none⟩) 9 9, .slice (some ⟨b1, 0, none⟩) 1 1, .slice (some ⟨b2, 0, none⟩) 1 1, .slice (some ⟨b3, 0, none⟩) 1 1, .slice (some ⟨b4, 0, none⟩) 1 1, .slice (some ⟨b5, 0, none⟩) 1 1, .slice (some ⟨b6, 0, none⟩) 1 1, .slice (some ⟨b7, 0, none⟩) 2 2] 23 go hgo.symm).later hy
      replace B0 := (B0.later (Later.new wq (.cells #[.slice (some ⟨b0, 0, none⟩) 9 9, .slice (some ⟨b1, 0, none⟩) 1 1, .slice (some ⟨b2, 0, none⟩) 1 1, .slice (some ⟨b3, 0, none⟩) 1 1, .slice (some ⟨b4, 0, none⟩) 1 1, .slice (some ⟨b5, 0, none⟩) 1 1, .slice (some ⟨b6, 0, none⟩) 1 1, .slice (some ⟨b7, 0, none⟩) 2 2] 23))).later hy
      replace B1 := (B1.later (Later.new wq (.cells #[.slice (some ⟨b0, 0, none⟩) 9 9, .slice (some ⟨b1, 0, none⟩) 1 1, .slice (some ⟨b2, 0, none⟩) 1 1, .slice (some ⟨b3, 0, none⟩) 1 1, .slice (some ⟨b4, 0, none⟩) 1 1, .slice (some ⟨b5, 0, none⟩) 1 1, .slice (some ⟨b6, 0, none⟩) 1 1, .slice (some ⟨b7, 0, none⟩) 2 2] 23))).later hy
      replace B2 := (B2.later (Later.new wq (.cells #[.slice (some ⟨b0, 0, none⟩) 9 9, .slice (some ⟨b1, 0, none⟩) 1 1, .slice (some ⟨b2, 0, none⟩) 1 1, .slice (some ⟨b3, 0, none⟩) 1 1, .slice (some ⟨b4, 0, none⟩) 1 1, .slice (some ⟨b5, 0, none⟩) 1 1, .slice (some ⟨b6, 0, none⟩) 1 1, .slice (some ⟨b7, 0, none⟩) 2 2] 23))).later hy
      replace B3 := (B3.later (Later.new wq (.cells #[.slice (some ⟨b0, 0, none⟩) 9 9, .slice (some ⟨b1, 0, none⟩) 1 1, .slice (some ⟨b2, 0, none⟩) 1 1, .slice (some ⟨b3, 0, none⟩) 1 1, .slice (some ⟨b4, 0, none⟩) 1 1, .slice (some ⟨b5, 0, none⟩) 1 1, .slice (some ⟨b6, 0, none⟩) 1 1, .slice (some ⟨b7, 0, none⟩) 2 2] 23))).later hy
      replace B4 := (B4.later (Later.new wq (.cells #[.slice (some ⟨b0, 0, none⟩) 9 9, .slice (some ⟨b1, 0, none⟩) 1 1, .slice (some ⟨b2, 0, none⟩) 1 1, .slice (some ⟨b3, 0, none⟩) 1 1, .slice (some ⟨b4, 0, none⟩) 1 1, .slice (some ⟨b5, 0, none⟩) 1 1, .slice (some ⟨b6, 0, none⟩) 1 1, .slice (some ⟨b7, 0, none⟩) 2 2] 23))).later hy
      replace B5 := (B5.later (Later.new wq (.cells #[.slice (some ⟨b0, 0, none⟩) 9 9, .slice (some ⟨b1, 0, none⟩) 1 1, .slice (some ⟨b2, 0, none⟩) 1 1, .slice (some ⟨b3, 0, none⟩) 1 1, .slice (some ⟨b4, 0, none⟩) 1 1, .slice (some ⟨b5, 0, none⟩) 1 1, .slice (some ⟨b6, 0, none⟩) 1 1, .slice (some ⟨b7, 0, none⟩) 2 2] 23))).later hy
      replace B6 := (B6.later (Later.new wq (.cells #[.slice (some ⟨b0, 0, none⟩) 9 9, .slice (some ⟨b1, 0, none⟩) 1 1, .slice (some ⟨b2, 0, none⟩) 1 1, .slice (some ⟨b3, 0, none⟩) 1 1, .slice (some ⟨b4, 0, none⟩) 1 1, .slice (some ⟨b5, 0, none⟩) 1 1, .slice (some ⟨b6, 0, none⟩) 1 1, .slice (some ⟨b7, 0, none⟩) 2 2] 23))).later hy
      replace B7 := (B7.later (Later.new wq (.cells #[.slice (some ⟨b0, 0, none⟩) 9 9, .slice (some ⟨b1, 0, none⟩) 1 1, .slice (some ⟨b2, 0, none⟩) 1 1, .slice (some ⟨b3, 0, none⟩) 1 1, .slice (some ⟨b4, 0, none⟩) 1 1, .slice (some ⟨b5, 0, none⟩) 1 1, .slice (some ⟨b6, 0, none⟩) 1 1, .slice (some ⟨b7, 0, none⟩) 2 2] 23))).later hy
      replace hS := (hS.alloc _).trans hy
      rw [hgo]
      clear hK hy hgo e0 e1 e2 e3 e4 e5 e6 e7
      (try simp only [Act.put, List.setIfInBounds_toArray, List.set_cons_zero, List.set_cons_succ])
      refine wpAnyK_take Later.refl (fun _ _ _ h k => h.trans k) (fun _ _ h k => h.trans k) (i := 20) (oi := { dst := some 9, op := _, type := _, pos := _, after := _, guard := _ }) (v := ?_) rfl (by kernel_rfl) (by kernel_rfl) (by kernel_rfl) (fun _ _ _ h => h) (Or.inl (Or.inl ⟨by rfl, ?_⟩)) hS ?_
      rotate_left
      focus ((intro w hSw; (try dsimp only at hSw); go_simp); (try with_reducible rfl))
      intro wz hwz
      replace hS := hS.trans hwz
      (try simp only [Act.put, List.setIfInBounds_toArray, List.set_cons_zero, List.set_cons_succ])
      have HLB := Lib.hid (show ∀ k, k < 8 → ∃ b, CellIs wz ⟨go, k, none⟩ (.slice (some ⟨b, 0, none⟩) (badL.getD k []).length (badL.getD k []).length) ∧ Has wz (some ⟨b, 0, none⟩) (ft (badL.getD k [])) from fun k hk => by
        obtain rfl | rfl | rfl | rfl | rfl | rfl | rfl | rfl : k = 0 ∨ k = 1 ∨ k = 2 ∨ k = 3 ∨ k = 4 ∨ k = 5 ∨ k = 6 ∨ k = 7 := by omega
        · exact ⟨b0, (show CellIs wy ⟨go, 0, none⟩ _ from BO.cell 0 _ rfl).later hwz, (B0.later hwz).has⟩
        · exact ⟨b1, (show CellIs wy ⟨go, 1, none⟩ _ from BO.cell 1 _ rfl).later hwz, (B1.later hwz).has⟩
        · exact ⟨b2, (show CellIs wy ⟨go, 2, none⟩ _ from BO.cell 2 _ rfl).later hwz, (B2.later hwz).has⟩
        · exact ⟨b3, (show CellIs wy ⟨go, 3, none⟩ _ from BO.cell 3 _ rfl).later hwz, (B3.later hwz).has⟩
        · exact ⟨b4, (show CellIs wy ⟨go, 4, none⟩ _ from BO.cell 4 _ rfl).later hwz, (B4.later hwz).has⟩
        · exact ⟨b5, (show CellIs wy ⟨go, 5, none⟩ _ from BO.cell 5 _ rfl).later hwz, (B5.later hwz).has⟩
        · exact ⟨b6, (show CellIs wy ⟨go, 6, none⟩ _ from BO.cell 6 _ rfl).later hwz, (B6.later hwz).has⟩
        · exact ⟨b7, (show CellIs wy ⟨go, 7, none⟩ _ from BO.cell 7 _ rfl).later hwz, (B7.later hwz).has⟩)
      have HS2 := Lib.hid hS
      clear hwz hS BO B0 B1 B2 B3 B4 B5 B6 B7
      refine wpAnyK_done (by kernel_rfl) ?_ _
      go_wp2_with fail
      obtain ⟨ge, hge⟩ : ∃ x, wz.heap.size = x := ⟨_, rfl⟩
      obtain ⟨w4, hw4⟩ : ∃ x, wz.alloc (.cells (errsL.map (Value.int .i64)).toArray 53) = x := ⟨_, rfl⟩
      have l4 : Later wz w4 := hw4 ▸ Later.new _ _
      have HEE := Lib.hid (show Blk w4 ge (errsL.map (Value.int .i64)).toArray 53 from hw4 ▸ Blk.new wz _ _ ge hge.symm)
      change Code.wp _ _ _ _ (wz.alloc (.cells (errsL.map (Value.int .i64)).toArray 53))
      rw [hw4, hge]
      have HB14 := Lib.hid ((HB1x.out.later HS2.out).later l4)
      have HVB4 := Lib.hid ((HVBx.out.later HS2.out).later l4)
      have HC4 := Lib.hid ((HCx.out.later HS2.out).later l4)
      have HL4 := Lib.hid ((HLW.out.trans HS2.out).trans l4)
      have HLB4 := Lib.hid (fun k (hk : k < 8) => let ⟨b, h1, h2⟩ := HLB.out k hk; (⟨b, h1.later l4, h2.later l4⟩ : ∃ b, CellIs w4 ⟨go, k, none⟩ (.slice (some ⟨b, 0, none⟩) (badL.getD k []).length (badL.getD k []).length) ∧ Has w4 (some ⟨b, 0, none⟩) (ft (badL.getD k []))))
      clear hw4 hge l4 HB1x HVBx HCx HLW HS2 HLB HV1x
      go_loopw [11] (fun i wr => ∃ k : Nat, k ≤ 8 ∧ i = .int .i64 k ∧ Later w4 wr) (fun i _ => 8 - (intOf i).toNat)
      case atStart => exact ⟨0, by omega, rfl, Later.refl _⟩
      case round =>
        obtain ⟨k, hk, rfl, lat⟩ := hrel
        by_cases hlt : k < 8
        · have hck := tableB k hlt
          obtain ⟨b, oc, T⟩ := HLB4.out k hlt
          obtain ⟨ev, hev⟩ : ∃ x, errsL.getD k 0 = x := ⟨_, rfl⟩
          have wc := HEE.out.cell k (.int .i64 ev) (by
            rw [List.getElem?_toArray, List.getElem?_map, ← hev, List.getD_eq_getElem?_getD, List.getElem?_eq_getElem (show k < errsL.length from hlt)]; rfl)
          rw [hev] at hck
          have hll := lenB k hlt
          obtain ⟨lot, hlot⟩ : ∃ x, badL.getD k [] = x := ⟨_, rfl⟩
          rw [hlot] at hck T oc hll
          have HCK := Lib.hid (fun w' (l : Later w4 w') => predCheck2_any (some ⟨g, 0, none⟩) 2 2 2 cF (some ⟨b, 0, none⟩) lot.length lot.length lot w' (HG.out.later (HL4.out.trans l)) (HS.out.later (HL4.out.trans l)) rfl (by decide) (HC4.out.later l) rfl (by omega) (T.later l))
          rw [hck] at HCK
          generalize lot.length = ln at oc HCK
          have hkk : (k : Int) < 8 := by omega
          have hk0 : (0 : Int) ≤ (k : Int) := by omega
          have bs := (HB14.out.later lat).drew
          have oc := (oc.later lat).drew
          have wc := ((show CellIs w4 ⟨ge, k, none⟩ (.int .i64 ev) from wc).later lat).drew
          have lz := lat.drew
          clear lat hck T hlot hev hll
          go_wp2_with fail
          go_region_held3 (fun w' => w'.cell? ⟨g + 1, 0, none⟩ = some (.slice (some ⟨g, 0, none⟩) 2 2) ∧ w'.cell? ⟨g + 1, 1, none⟩ = some (.int .i64 2) ∧ w'.cell? ⟨go, k, none⟩ = some (.slice (some ⟨b, 0, none⟩) ln ln) ∧ w'.cell? ⟨ge, k, none⟩ = some (.int .i64 ev)) (exact ⟨bs.cell 0 _ rfl, bs.cell 1 _ rfl, oc.out, wc.out⟩) (first
            | (go_at_call 13; refine (HCK.out _ lz).mono ?_; rintro e wX ⟨rfl, lX⟩; have lz := lz.trans lX; have bs := bs.later lX; have oc := oc.later lX; have wc := wc.later lX; clear lX))
          clear HCK
          have hev2 : (ev != ev) = false := by simp
          all_goals go_wp2_with fail
          all_goals go_roundw
          all_goals first
            | exact ⟨k + 1, hlt, by go_num, lz⟩
            | (simp [intOf]; omega)
        · have s0 := (show CellIs wr ⟨g + 1, 0, none⟩ _ from (HB14.out.later lat).cell 0 _ rfl).out
          have s1 := (show CellIs wr ⟨g + 1, 1, none⟩ _ from (HB14.out.later lat).cell 1 _ rfl).out
          have v0 := (show CellIs wr ⟨g + 1 + 1 + 1 + 1, 0, none⟩ (.int .i64 4) from (HVB4.out.later lat).cell 0 _ rfl).out
          have v1 := (show CellIs wr ⟨g + 1 + 1 + 1 + 1, 1, none⟩ (.int .i64 0) from (HVB4.out.later lat).cell 1 _ rfl).out
          have v2 := (show CellIs wr ⟨g + 1 + 1 + 1 + 1, 2, none⟩ (.string sB) from (HVB4.out.later lat).cell 2 _ rfl).out
          have HLL4 := Lib.hid (HL4.out.trans lat)
          have HCK := Lib.hid (predCheck2_any (some ⟨g, 0, none⟩) 2 2 2 cF (some ⟨wr.heap.size, 0, none⟩) 1 1 uF (wr.alloc (.cells (ft uF).toArray 28)) (HG.out.later (HLL4.out.alloc _)) (HS.out.later (HLL4.out.alloc _)) rfl (by decide) (HC4.out.later (lat.alloc _)) rfl (by decide) (Blk.new wr (ft uF).toArray 28 _ rfl).has)
          rw [show checkT cF uF = 0 by decide +kernel] at HCK
          clear lat
          go_wp2_with fail
          refine HCK.out.mono ?_
          rintro e wX ⟨rfl, lX⟩
          have HF := Lib.hid (HLL4.out.trans ((Later.new wr _).trans lX))
          clear lX HCK
          go_wp2_with fail
          go_ret
          exact ⟨rfl, HF.out⟩
end Go.Proofs.YteiabachilpciaaDoor
