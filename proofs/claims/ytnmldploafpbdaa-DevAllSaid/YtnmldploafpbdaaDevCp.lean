/- The walk of a device's Copy. -/
import Derived.Test.YtnmldploafpbdaaDevN
namespace Go.Proofs.Ytnmldploafpbdaa
open Go.RowKit
set_option linter.unusedVariables false

theorem FL.vals2 {w : World} {base n c : Nat} {A : Option Addr} {F : List (Nat × List Nat)} (h : FL w base A n c F) : ∃ vs, vs.length = n * 2 ∧ Has w A vs ∧ (∀ u ∈ vs, u.oneCell' = true) ∧ (A = none → c = 0) ∧ ∀ i, (hi : i < F.length) → vs[i * 2]? = some (.int .i64 (F[i].1 : Int)) ∧ ∃ v, vs[i * 2 + 1]? = some v ∧ BV w v F[i].2 := by
  obtain ⟨h1, h0, vs, h2, h3⟩ := h
  have hl : vs.length = n * 2 := h2.1
  refine ⟨vs, hl, Has.ownG h2, fun u hu => ?_, h0, h3⟩
  obtain ⟨i, hi, rfl⟩ := List.getElem_of_mem hu
  obtain ⟨h4, v, h5, h6⟩ := h3 (i / 2) (by omega)
  obtain ⟨_, _, b, o, cc, cs, h7, _⟩ := h6
  obtain hp | hp : i = i / 2 * 2 ∨ i = i / 2 * 2 + 1 := by omega
  · rw [← hp, List.getElem?_eq_getElem hi] at h4
    injection h4 with h4
    rw [h4]; rfl
  · rw [← hp, List.getElem?_eq_getElem hi] at h5
    injection h5 with h5
    rw [h5, h7]; rfl
theorem copy_leaf {w wX : World} {t3 g1 g2 B c1 c2 nf c3 : Nat} {A' : Option Addr} {d : D} {u0 u1 u2 : Value} (BX : Blk wX t3 #[u0, u1, u2, .int .i64 d.writes, .bool d.stops, .int .i64 d.left] 56) (S1 : SR wX w.heap.size g1 B c1 d.sure) (S2 : SR wX w.heap.size g2 B c2 d.now) (S3 : FL wX w.heap.size A' nf c3 d.fly) (h12 : g1 ≠ g2) (hp : w.heap.size ≤ t3) (hnf : nf = d.fly.length) (lz : Later w wX) :
    DA (((wX.setCell ⟨t3, 0, none⟩ (.slice (some ⟨g1, 0, none⟩) B c1)).setCell ⟨t3, 1, none⟩ (.slice (some ⟨g2, 0, none⟩) B c2)).setCell ⟨t3, 2, none⟩ (.slice A' nf c3)) w.heap.size t3 g1 g2 B c1 c2 A' c3 d ∧ Later w (((wX.setCell ⟨t3, 0, none⟩ (.slice (some ⟨g1, 0, none⟩) B c1)).setCell ⟨t3, 1, none⟩ (.slice (some ⟨g2, 0, none⟩) B c2)).setCell ⟨t3, 2, none⟩ (.slice A' nf c3)) := by
  have D0 : DR wX w.heap.size t3 g1 g2 B c1 c2 A' nf c3 d.sure d.now d.fly #[u0, u1, u2, .int .i64 d.writes, .bool d.stops, .int .i64 d.left] := ⟨BX, S1, S2, S3, h12, hp⟩
  have D3 := ((D0.setp 0 (.slice (some ⟨g1, 0, none⟩) B c1)).setp 1 (.slice (some ⟨g2, 0, none⟩) B c2)).setp 2 (.slice A' nf c3)
  exact ⟨DA.of (d := d) (nf := nf) D3 hnf.symm rfl, ((lz.set_ (by exact hp) _).set_ (by exact hp) _).set_ (by exact hp) _⟩
/-- The copy is a device of its own, as d is. -/
def CopyP (w : World) (B : Nat) (d : D) (e : Ending) (w' : World) : Prop := ∃ q gs gn cs cn A cf, e = .returned (dptr q) ∧ DA w' w.heap.size q gs gn B cs cn A cf d ∧ Later w w'
set_option maxRecDepth 100000 in
set_option maxHeartbeats 8000000 in
theorem devCopy_any (base p gs gn B cs cn : Nat) (A : Option Addr) (cf : Nat) (d : D) (w : World) (h : DA w base p gs gn B cs cn A cf d) (hB : 1 ≤ B ∧ B ≤ 4000) (hf : d.fly.length ≤ 100000) :
    Calls Try.prog 17 #[dptr p] w (CopyP w B d) := by
  obtain ⟨nf, hnf⟩ : ∃ nf, nf = d.fly.length := ⟨_, rfl⟩
  have k0 := h.c0
  have k1 := h.c1
  have k2 := h.c2
  have k3 := h.c3
  have k4 := h.c4
  have k5 := h.c5
  rw [← hnf] at k2
  have HC1 := Lib.hid (fun (W : World) (L : Later w W) => (show Calls Try.prog 29 #[.slice (some ⟨gs, 0, none⟩) B cs] W fun e w' => ∃ v, e = .returned v ∧ (∃ g c, v = .slice (some ⟨g, 0, none⟩) B c ∧ SR w' w.heap.size g B c d.sure ∧ W.heap.size ≤ g ∧ g < w'.heap.size) ∧ Later W w' from by
    obtain ⟨vs, h1, h2, h3, hv⟩ := (h.later L).2.1.vals
    exact (rowClone_any gs B cs vs W h1.symm hB.1 (by omega) h2 h3).mono fun e w' ⟨g, c, he, ho, l⟩ => ⟨_, he, ⟨g, c, rfl, SR.clone (h.later L).2.1.1 hv ho l L.size, ho.lt g rfl⟩, l⟩))
  have HC2 := Lib.hid (fun (W : World) (L : Later w W) => (show Calls Try.prog 29 #[.slice (some ⟨gn, 0, none⟩) B cn] W fun e w' => ∃ v, e = .returned v ∧ (∃ g c, v = .slice (some ⟨g, 0, none⟩) B c ∧ SR w' w.heap.size g B c d.now ∧ W.heap.size ≤ g ∧ g < w'.heap.size) ∧ Later W w' from by
    obtain ⟨vs, h1, h2, h3, hv⟩ := (h.later L).2.2.1.vals
    exact (rowClone_any gn B cn vs W h1.symm hB.1 (by omega) h2 h3).mono fun e w' ⟨g, c, he, ho, l⟩ => ⟨_, he, ⟨g, c, rfl, SR.clone (h.later L).2.2.1.1 hv ho l L.size, ho.lt g rfl⟩, l⟩))
  have HC3 := Lib.hid (fun (W : World) (L : Later w W) => (show Calls Try.prog 32 #[.slice A nf cf] W fun e w' => ∃ v, e = .returned v ∧ (∃ A' c, v = .slice A' nf c ∧ FL w' w.heap.size A' nf c d.fly) ∧ Later W w' from by
    obtain ⟨vs, h1, h2, h3, h4, hv⟩ := (h.later L).2.2.2.1.vals2
    rw [← hnf] at h1
    exact (flyClone_any A nf cf vs W h1 (by omega) h2 h3 h4).mono fun e w' ⟨g, c, he, ho, hn, l⟩ => ⟨_, he, ⟨g, c, rfl, hnf.symm, hn, vs, own_monoK ho L.size, fun i hi => by obtain ⟨a1, v, a2, a3⟩ := hv i hi; exact ⟨a1, v, a2, a3.later l⟩⟩, l⟩))
  have L1 := Later.new w (.cells #[.slice (some ⟨gs, 0, none⟩) B cs, .slice (some ⟨gn, 0, none⟩) B cn, .slice A nf cf, .int .i64 d.writes, .bool d.stops, .int .i64 d.left] 56)
  have B1 := Blk.new w #[.slice (some ⟨gs, 0, none⟩) B cs, .slice (some ⟨gn, 0, none⟩) B cn, .slice A nf cf, .int .i64 d.writes, .bool d.stops, .int .i64 d.left] 56 w.heap.size rfl
  have Z := Blk.new w #[nilv, nilv, nilv, .int .i64 0, .bool false, .int .i64 0] 56 w.heap.size rfl
  have z0 := Z.frozen 0
  have z1 := Z.frozen 1
  have z2 := Z.frozen 2
  have z3 := Z.frozen 3
  have z4 := Z.frozen 4
  have z5 := Z.frozen 5
  have hp := h.1.lt
  obtain ⟨w1, hw1⟩ : ∃ x, w.alloc (.cells #[.slice (some ⟨gs, 0, none⟩) B cs, .slice (some ⟨gn, 0, none⟩) B cn, .slice A nf cf, .int .i64 d.writes, .bool d.stops, .int .i64 d.left] 56) = x := ⟨_, rfl⟩
  rw [hw1] at L1 B1
  obtain ⟨t3, ht3⟩ : ∃ x, w.heap.size = x := ⟨_, rfl⟩
  rw [ht3] at B1 z0 z1 z2 z3 z4 z5
  have HT3 := Lib.hid ht3
  have HL1 := Lib.hid L1
  have P1 : Blk w1 p #[.slice (some ⟨gs, 0, none⟩) B cs, .slice (some ⟨gn, 0, none⟩) B cn, .slice A nf cf, .int .i64 d.writes, .bool d.stops, .int .i64 d.left] 56 := by rw [hnf]; exact h.1.later L1
  have m0 := P1.cell 0 _ rfl
  have m1 := P1.cell 1 _ rfl
  have m2 := P1.cell 2 _ rfl
  have b0 := B1.cell 0 _ rfl
  have b1 := B1.cell 1 _ rfl
  have b2 := B1.cell 2 _ rfl
  have y0 := B1.frozen 0
  have y1 := B1.frozen 1
  have y2 := B1.frozen 2
  have HNF := Lib.hid hnf
  clear h hf Z hnf
  go_enter Try.func17, Try.ntmps17
  go_wp2_with fail
  have lz := L1.drew
  have PX := P1.drew
  have BX := B1.drew
  clear k0 k1 k2 k3 k4 k5 z0 z1 z2 z3 z4 z5 L1 P1 B1
  go_region_law (first
    | (go_simp; go_at_call 29; (first | (refine (HC1.out _ lz).mono ?_; rintro e wX ⟨vX, rfl, ⟨gX, cX, rfl, sX, bX, tX⟩, lX⟩; (try have g12 := Lib.hid (show gX ≠ _ from Nat.ne_of_gt (Nat.lt_of_lt_of_le R2.out bX))); (try (have S1 := Lib.hid (S1.out.later lX); have R1 := Lib.hid (Nat.lt_of_lt_of_le R1.out lX.size))); (try (have S2 := Lib.hid (S2.out.later lX); have R2 := Lib.hid (Nat.lt_of_lt_of_le R2.out lX.size))); (try have S3 := Lib.hid (S3.out.later lX)); have S1 := Lib.hid sX; have R1 := Lib.hid tX) | (refine (HC2.out _ lz).mono ?_; rintro e wX ⟨vX, rfl, ⟨gX, cX, rfl, sX, bX, tX⟩, lX⟩; (try have g12 := Lib.hid (show _ ≠ gX from Nat.ne_of_lt (Nat.lt_of_lt_of_le R1.out bX))); (try (have S1 := Lib.hid (S1.out.later lX); have R1 := Lib.hid (Nat.lt_of_lt_of_le R1.out lX.size))); (try (have S2 := Lib.hid (S2.out.later lX); have R2 := Lib.hid (Nat.lt_of_lt_of_le R2.out lX.size))); (try have S3 := Lib.hid (S3.out.later lX)); have S2 := Lib.hid sX; have R2 := Lib.hid tX)); have lz := lz.trans lX; have PX := PX.later lX; have BX := BX.later lX; have m0 := PX.cell 0 _ rfl; have m1 := PX.cell 1 _ rfl; have m2 := PX.cell 2 _ rfl; have b0 := BX.cell 0 _ rfl; have b1 := BX.cell 1 _ rfl; have b2 := BX.cell 2 _ rfl; have y0 := BX.frozen 0; have y1 := BX.frozen 1; have y2 := BX.frozen 2; clear lX)
    | (go_simp; go_at_call 32; refine (HC3.out _ lz).mono ?_; rintro e wX ⟨vX, rfl, ⟨gX, cX, rfl, sX⟩, lX⟩; (try (have S1 := Lib.hid (S1.out.later lX); have R1 := Lib.hid (Nat.lt_of_lt_of_le R1.out lX.size))); (try (have S2 := Lib.hid (S2.out.later lX); have R2 := Lib.hid (Nat.lt_of_lt_of_le R2.out lX.size))); (try have S3 := Lib.hid (S3.out.later lX)); have S3 := Lib.hid sX; have lz := lz.trans lX; have PX := PX.later lX; have BX := BX.later lX; have m0 := PX.cell 0 _ rfl; have m1 := PX.cell 1 _ rfl; have m2 := PX.cell 2 _ rfl; have b0 := BX.cell 0 _ rfl; have b1 := BX.cell 1 _ rfl; have b2 := BX.cell 2 _ rfl; have y0 := BX.frozen 0; have y1 := BX.frozen 1; have y2 := BX.frozen 2; clear lX))
  all_goals
    have hp0 : w.heap.size ≤ t3 := by rw [HT3.out]; exact Nat.le_refl _
    have CL := Lib.hid (copy_leaf BX S1.out S2.out S3.out g12.out hp0 HNF.out lz)
    clear S1 S2 S3 R1 R2 g12 BX PX lz m0 m1 m2 b0 b1 b2 y0 y1 y2
    go_wp2_with fail
    go_ret
    exact ⟨t3, _, _, _, _, _, _, rfl, CL.out.1, CL.out.2⟩
end Go.Proofs.Ytnmldploafpbdaa
