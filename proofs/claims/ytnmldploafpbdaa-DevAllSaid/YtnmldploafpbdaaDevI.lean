/- The walk of a device's Copy, as far as that there is one. -/
import Derived.Test.YtnmldploafpbdaaDevE
import Derived.Deep.RegionLaw
namespace Go.Proofs.Ytnmldploafpbdaa
open Go.RowKit
set_option linter.unusedVariables false

theorem info_wr2 : (Try.prog.info? 59).map (fun i => (i.zero, i.size, i.bytes)) = some (some (.agg #[.int .i64 0, .slice none 0 0]), 2, 32) := by kernel_rfl
set_option maxRecDepth 100000 in
set_option maxHeartbeats 1000000 in
theorem flyClone_any (A : Option Addr) (n c : Nat) (vs : List Value) (w : World) (hn : vs.length = n * 2) (hl : n ≤ 100000) (hr : Has w A vs) (h1 : ∀ u ∈ vs, u.oneCell' = true) (hnil : A = none → c = 0) :
    Calls Try.prog 32 #[.slice A n c] w fun e w' => ∃ B cap, e = .returned (.slice B n cap) ∧ w'.ownsRow w.heap.size 59 2 (.slice B n cap) n vs ∧ (B = none → cap = 0) ∧ Later w w' := by
  have q22 : ∀ (w : World) (a : Option Addr) (n c n' c' : Nat), (binOp .eql 54 (.slice a n c) (.slice none n' c')).run Try.prog w = .ok (.bool a.isNone) w := fun w a n c n' c' => Lib.run_eql_slice_nil w _ _ a n c n' c' Try.underlying54
  rcases A with _ | a
  · have h0 : vs = [] := by
      rcases hr with h | ⟨_, _, h, _⟩
      · exact h
      · cases h
    subst h0
    have hn0 : n = 0 := by simp at hn; omega
    subst hn0
    clear hr h1 hn
    go_enter Try.func32, Try.ntmps32
    go_wp2_with fail
    go_ret
    exact ⟨none, 0, rfl, ownG_nil _ _ _ _, (fun _ => rfl), Later.refl _⟩
  · have l1 := Later.new w (.cells ([] : List Value).toArray 59)
    have OW := Lib.hid ((Blk.new w ([] : List Value).toArray 59 _ rfl).ownG (base := w.heap.size) (size := 2) (n := 0) (Nat.le_refl _) rfl (by decide))
    have HR := Lib.hid (hr.later l1)
    have HL1 := Lib.hid l1
    have HN := Lib.hid hn
    have H1 := Lib.hid h1
    clear hr l1 hn h1
    go_enter Try.func32, Try.ntmps32
    go_wp2_with (at_builtin; refine wpList_append_g _ rfl (.tmp 5) (.tmp 6) 54 rfl w.heap.size 59 (.agg #[.int .i64 0, .slice none 0 0]) 2 32 Try.underlying54 info_wr2 rfl (by decide) _ 0 [] rfl OW.out _ n c vs rfl HR.out HN.out (by intro h; cases h) H1.out (by unfold maxLen; omega) (by omega) ?_ ?_; (exact HL1.out.size); intro A2 c2 w6 o2 g2 b2 n2; simp only [Nat.zero_add, List.nil_append] at o2; have HO2 := Lib.hid o2; have HN2 := Lib.hid n2; have HB6 := Lib.hid (Later.of (HL1.out.below.trans b2)); clear o2 g2 b2 n2)
    go_ret
    exact ⟨A2, c2, by simp, HO2.out, HN2.out, HB6.out⟩
theorem FL.vals {w : World} {base n c : Nat} {A : Option Addr} {F : List (Nat × List Nat)} (h : FL w base A n c F) : ∃ vs, vs.length = n * 2 ∧ Has w A vs ∧ (∀ u ∈ vs, u.oneCell' = true) ∧ (A = none → c = 0) := by
  obtain ⟨h1, h0, vs, h2, h3⟩ := h
  have hl : vs.length = n * 2 := h2.1
  refine ⟨vs, hl, Has.ownG h2, fun u hu => ?_, h0⟩
  obtain ⟨i, hi, rfl⟩ := List.getElem_of_mem hu
  obtain ⟨h4, v, h5, h6⟩ := h3 (i / 2) (by omega)
  obtain ⟨_, _, b, o, cc, cs, h7, _⟩ := h6
  obtain hp | hp : i = i / 2 * 2 ∨ i = i / 2 * 2 + 1 := by omega
  · rw [← hp, List.getElem?_eq_getElem hi] at h4
    injection h4 with h4
    rw [h4]; rfl
  · rw [← hp, List.getElem?_eq_getElem hi] at h5
    injection h5 with h5
    rw [h5, h7]; rfl

/-- There is a copy. -/
def SomeCopy (w : World) (e : Ending) (w' : World) : Prop := ∃ q, e = .returned (dptr q) ∧ Later w w'
set_option maxRecDepth 100000 in
set_option maxHeartbeats 8000000 in
theorem devCopy_some (base p gs gn B cs cn : Nat) (A : Option Addr) (cf : Nat) (d : D) (w : World) (h : DA w base p gs gn B cs cn A cf d) (hB : 1 ≤ B ∧ B ≤ 4000) (hf : d.fly.length ≤ 100000) :
    Calls Try.prog 17 #[dptr p] w (SomeCopy w) := by
  obtain ⟨nf, hnf⟩ : ∃ nf, nf = d.fly.length := ⟨_, rfl⟩
  have k0 := h.c0
  have k1 := h.c1
  have k2 := h.c2
  have k3 := h.c3
  have k4 := h.c4
  have k5 := h.c5
  rw [← hnf] at k2
  have HC1 := Lib.hid (fun (W : World) (L : Later w W) => (show Calls Try.prog 29 #[.slice (some ⟨gs, 0, none⟩) B cs] W fun e w' => ∃ v, e = .returned v ∧ (∃ g c, v = .slice (some ⟨g, 0, none⟩) B c) ∧ Later W w' from by
    obtain ⟨vs, h1, h2, h3, _⟩ := (h.later L).2.1.vals
    exact (rowClone_any gs B cs vs W h1.symm hB.1 (by omega) h2 h3).mono fun e w' ⟨g, c, he, _, l⟩ => ⟨_, he, ⟨g, c, rfl⟩, l⟩))
  have HC2 := Lib.hid (fun (W : World) (L : Later w W) => (show Calls Try.prog 29 #[.slice (some ⟨gn, 0, none⟩) B cn] W fun e w' => ∃ v, e = .returned v ∧ (∃ g c, v = .slice (some ⟨g, 0, none⟩) B c) ∧ Later W w' from by
    obtain ⟨vs, h1, h2, h3, _⟩ := (h.later L).2.2.1.vals
    exact (rowClone_any gn B cn vs W h1.symm hB.1 (by omega) h2 h3).mono fun e w' ⟨g, c, he, _, l⟩ => ⟨_, he, ⟨g, c, rfl⟩, l⟩))
  have HC3 := Lib.hid (fun (W : World) (L : Later w W) => (show Calls Try.prog 32 #[.slice A nf cf] W fun e w' => ∃ v, e = .returned v ∧ (∃ A' c, v = .slice A' nf c) ∧ Later W w' from by
    obtain ⟨vs, h1, h2, h3, h4⟩ := (h.later L).2.2.2.1.vals
    rw [← hnf] at h1
    exact (flyClone_any A nf cf vs W h1 (by omega) h2 h3 h4).mono fun e w' ⟨g, c, he, _, _, l⟩ => ⟨_, he, ⟨g, c, rfl⟩, l⟩))
  have L1 := Later.new w (.cells #[.slice (some ⟨gs, 0, none⟩) B cs, .slice (some ⟨gn, 0, none⟩) B cn, .slice A nf cf, .int .i64 d.writes, .bool d.stops, .int .i64 d.left] 56)
  have B1 := Blk.new w #[.slice (some ⟨gs, 0, none⟩) B cs, .slice (some ⟨gn, 0, none⟩) B cn, .slice A nf cf, .int .i64 d.writes, .bool d.stops, .int .i64 d.left] 56 w.heap.size rfl
  have Z := Blk.new w #[nilv, nilv, nilv, .int .i64 0, .bool false, .int .i64 0] 56 w.heap.size rfl
  have z0 := Z.frozen 0
  have z1 := Z.frozen 1
  have z2 := Z.frozen 2
  have z3 := Z.frozen 3
  have z4 := Z.frozen 4
  have z5 := Z.frozen 5
  have hp := h.1.lt
  obtain ⟨w1, hw1⟩ : ∃ x, w.alloc (.cells #[.slice (some ⟨gs, 0, none⟩) B cs, .slice (some ⟨gn, 0, none⟩) B cn, .slice A nf cf, .int .i64 d.writes, .bool d.stops, .int .i64 d.left] 56) = x := ⟨_, rfl⟩
  rw [hw1] at L1 B1
  obtain ⟨t3, ht3⟩ : ∃ x, w.heap.size = x := ⟨_, rfl⟩
  rw [ht3] at B1 z0 z1 z2 z3 z4 z5
  have HT3 := Lib.hid ht3
  have HL1 := Lib.hid L1
  have P1 : Blk w1 p #[.slice (some ⟨gs, 0, none⟩) B cs, .slice (some ⟨gn, 0, none⟩) B cn, .slice A nf cf, .int .i64 d.writes, .bool d.stops, .int .i64 d.left] 56 := by rw [hnf]; exact h.1.later L1
  have m0 := P1.cell 0 _ rfl
  have m1 := P1.cell 1 _ rfl
  have m2 := P1.cell 2 _ rfl
  have b0 := B1.cell 0 _ rfl
  have b1 := B1.cell 1 _ rfl
  have b2 := B1.cell 2 _ rfl
  have y0 := B1.frozen 0
  have y1 := B1.frozen 1
  have y2 := B1.frozen 2
  clear h hf Z hnf
  go_enter Try.func17, Try.ntmps17
  go_wp2_with fail
  have lz := L1.drew
  have PX := P1.drew
  have BX := B1.drew
  clear k0 k1 k2 k3 k4 k5 z0 z1 z2 z3 z4 z5 L1 P1 B1
  go_region_law (first
    | (go_simp; go_at_call 29; (first | (refine (HC1.out _ lz).mono ?_) | (refine (HC2.out _ lz).mono ?_)); rintro e wX ⟨vX, rfl, ⟨gX, cX, rfl⟩, lX⟩; have lz := lz.trans lX; have PX := PX.later lX; have BX := BX.later lX; have m0 := PX.cell 0 _ rfl; have m1 := PX.cell 1 _ rfl; have m2 := PX.cell 2 _ rfl; have b0 := BX.cell 0 _ rfl; have b1 := BX.cell 1 _ rfl; have b2 := BX.cell 2 _ rfl; have y0 := BX.frozen 0; have y1 := BX.frozen 1; have y2 := BX.frozen 2; clear lX)
    | (go_simp; go_at_call 32; refine (HC3.out _ lz).mono ?_; rintro e wX ⟨vX, rfl, ⟨gX, cX, rfl⟩, lX⟩; have lz := lz.trans lX; have PX := PX.later lX; have BX := BX.later lX; have m0 := PX.cell 0 _ rfl; have m1 := PX.cell 1 _ rfl; have m2 := PX.cell 2 _ rfl; have b0 := BX.cell 0 _ rfl; have b1 := BX.cell 1 _ rfl; have b2 := BX.cell 2 _ rfl; have y0 := BX.frozen 0; have y1 := BX.frozen 1; have y2 := BX.frozen 2; clear lX))
  all_goals
    have hp0 : w.heap.size ≤ t3 := by rw [HT3.out]; exact Nat.le_refl _
    go_wp2_with fail
    go_ret
    exact ⟨t3, rfl, ((lz.set_ (by exact hp0) _).set_ (by exact hp0) _).set_ (by exact hp0) _⟩
end Go.Proofs.Ytnmldploafpbdaa
