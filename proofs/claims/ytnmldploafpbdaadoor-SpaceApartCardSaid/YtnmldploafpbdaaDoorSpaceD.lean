/- The walks of package space: Take, Copy, and what no space tells. -/
import Derived.Test.YtnmldploafpbdaaDoorSpaceC
namespace Go.Proofs.YtnmldploafpbdaaDoor
open Go.RowKit
set_option linter.unusedVariables false

/-- k blocks from i on are there, and free. -/
def okS (l : List Bool) (i k : Nat) : Prop := i + k ≤ l.length ∧ ∀ j, i ≤ j → j < i + k → l[j]? = some false
theorem okS.idx {l : List Bool} {i k : Nat} (h : okS l i k) : idxB true (segL l i k) = -1 := by
  apply idxB_none
  intro j hj
  have hl := segL_len h.1
  have h2 := h.2 (i + j) (by omega) (by omega)
  rw [segL_get h.1 j hj (by have := h.1; omega)]
  rw [List.getElem?_eq_getElem (by have := h.1; omega)] at h2
  injection h2 with h2
  rw [h2]; decide
theorem idxB_inv {b : Bool} {l : List Bool} (h : idxB b l = -1) : ∀ i, (hi : i < l.length) → l[i] ≠ b := by
  unfold idxB at h
  split at h
  · omega
  · rename_i hn
    intro i hi
    have := List.findIdx?_eq_none_iff.1 hn l[i] (List.getElem_mem _)
    simpa using this
theorem okS_of_idx {l : List Bool} {i k : Nat} (h : i + k ≤ l.length) (hx : idxB true (segL l i k) = -1) : okS l i k := by
  refine ⟨h, fun j h1 h2 => ?_⟩
  obtain ⟨d, rfl⟩ : ∃ d, j = i + d := ⟨j - i, by omega⟩
  have hl := segL_len h
  have h3 := idxB_inv hx d (by omega)
  rw [segL_get h d (by omega) (by omega)] at h3
  rw [List.getElem?_eq_getElem (by omega)]
  simpa using h3
/-- Ahead of i, so many are free in a row. -/
def freeS (l : List Bool) (i u : Nat) : Prop := u ≤ i ∧ (∀ j, i - u ≤ j → j < i → l[j]? = some false) ∧ (u = i ∨ l[i - u - 1]? = some true)
theorem freeS_zero (l : List Bool) : freeS l 0 0 := ⟨Nat.le_refl _, fun j h1 h2 => by omega, .inl rfl⟩
theorem freeS_true {l : List Bool} {i u : Nat} (h : freeS l i u) (hb : l[i]? = some true) : freeS l (i + 1) 0 :=
  ⟨Nat.zero_le _, fun j h1 h2 => by omega, .inr (by rw [show i + 1 - 0 - 1 = i from by omega]; exact hb)⟩
theorem freeS_false {l : List Bool} {i u : Nat} (h : freeS l i u) (hb : l[i]? = some false) : freeS l (i + 1) (u + 1) := by
  obtain ⟨h1, h2, h3⟩ := h
  refine ⟨by omega, fun j h4 h5 => ?_, ?_⟩
  · by_cases hj : j = i
    · rw [hj]; exact hb
    · exact h2 j (by omega) (by omega)
  · rcases h3 with h3 | h3
    · exact .inl (by omega)
    · exact .inr (by rw [show i + 1 - (u + 1) - 1 = i - u - 1 from by omega]; exact h3)
/-- No run of k blocks that are free ends at i or ahead of it. -/
def noneS (l : List Bool) (i k : Nat) : Prop := ∀ i', i' + k ≤ i → ¬ okS l i' k
theorem noneS_zero {l : List Bool} {k : Nat} (hk : 1 ≤ k) : noneS l 0 k := fun i' h => by omega
theorem noneS_step {l : List Bool} {i u k : Nat} (h : noneS l i k) (hf : freeS l (i + 1) u) (hu : u < k) : noneS l (i + 1) k := by
  intro i' hi' hok
  by_cases h1 : i' + k ≤ i
  · exact h i' h1 hok
  · obtain ⟨h2, h3, h4⟩ := hf
    rcases h4 with h4 | h4
    · omega
    · have := hok.2 (i + 1 - u - 1) (by omega) (by omega)
      rw [h4] at this; cases this
theorem okS_of_free {l : List Bool} {i k : Nat} (hf : freeS l (i + 1) k) (hi : i + 1 ≤ l.length) : okS l (i + 1 - k) k := by
  obtain ⟨h2, h3, h4⟩ := hf
  exact ⟨by omega, fun j h5 h6 => h3 j h5 (by omega)⟩
theorem noneS_lt {l : List Bool} {i k : Nat} (h : noneS l i k) (hf : k ≤ i + 1) : ∀ i', i' < i + 1 - k → ¬ okS l i' k := fun i' h1 => h i' (by omega)

/-- Whether k blocks from i on are free. -/
def okB (l : List Bool) (i k : Nat) : Bool := decide (i + k ≤ l.length) && (segL l i k).all (! ·)
theorem okB_iff (l : List Bool) (i k : Nat) : okB l i k = true ↔ okS l i k := by
  unfold okB
  rw [Bool.and_eq_true, decide_eq_true_iff, List.all_eq_true]
  constructor
  · rintro ⟨h1, h2⟩
    refine okS_of_idx h1 (idxB_none fun j hj => ?_)
    have := h2 _ (List.getElem_mem hj)
    simpa using this
  · intro h
    refine ⟨h.1, fun x hx => ?_⟩
    obtain ⟨j, hj, rfl⟩ := List.getElem_of_mem hx
    have := idxB_inv h.idx j hj
    simpa using this
/-- Where the first run of k free blocks starts. -/
def fstS (l : List Bool) (k : Int) : Option Nat := if 1 ≤ k then (List.range l.length).find? (fun i => okB l i k.toNat) else none
theorem fstS_some {l : List Bool} {k i : Nat} (hk : 1 ≤ k) (h : okS l i k) (hm : ∀ i' < i, ¬ okS l i' k) : fstS l k = some i := by
  unfold fstS
  rw [if_pos (by omega), Int.toNat_natCast, List.find?_range_eq_some]
  refine ⟨(okB_iff _ _ _).2 h, List.mem_range.2 (by have := h.1; omega), fun j hj => ?_⟩
  have := hm j hj
  rw [← okB_iff] at this
  simpa using this
theorem fstS_none {l : List Bool} {k : Nat} (hm : ∀ i, ¬ okS l i k) : fstS l k = none := by
  unfold fstS
  split
  · rw [Int.toNat_natCast, List.find?_range_eq_none]
    intro i hi
    have := hm i
    rw [← okB_iff] at this
    simpa using this
  · rfl
theorem fstS_low {l : List Bool} {k : Int} (h : k < 1) : fstS l k = none := if_neg (by omega)
theorem fstS_inv {l : List Bool} {k : Int} {i : Nat} (h : fstS l k = some i) : ∃ m : Nat, k = (m : Int) ∧ 1 ≤ m ∧ okS l i m ∧ ∀ i' < i, ¬ okS l i' m := by
  unfold fstS at h
  split at h
  · obtain ⟨m, rfl⟩ := Int.eq_ofNat_of_zero_le (show 0 ≤ k by omega)
    rw [Int.toNat_natCast, List.find?_range_eq_some] at h
    refine ⟨m, rfl, by omega, (okB_iff _ _ _).1 h.1, fun j hj => ?_⟩
    have := h.2.2 j hj
    rw [← okB_iff]
    simpa using this
  · cases h
theorem fstS_inv_none {l : List Bool} {k : Nat} (hk : 1 ≤ k) (h : fstS l k = none) : ∀ i, ¬ okS l i k := by
  unfold fstS at h
  rw [if_pos (by omega), Int.toNat_natCast, List.find?_range_eq_none] at h
  intro i hi
  have := h i (by have := hi.1; omega)
  rw [(okB_iff _ _ _).2 hi] at this
  cases this

/-- What Take leaves: the first run that is long enough is taken, if there is one. -/
def TakeP (p : Nat) (f : Int) (l : List Bool) (g c : Nat) (k : Int) (o : Option Nat) (w : World) (e : Ending) (w' : World) : Prop :=
  (∃ i : Nat, o = some i ∧ e = .returned (.tuple #[ext (f + (i : Int)) k, .bool true]) ∧ Spc w' p f (setL l i k.toNat true) g c ∧ w.grownBy w' (some g)) ∨
  (o = none ∧ e = .returned (.tuple #[ext 0 0, .bool false]) ∧ Later w w')
theorem TakeP.mky {p : Nat} {f q : Int} {l : List Bool} {g c k : Nat} {o : Option Nat} {w w' : World} {i : Nat} (h : o = some i) (hq : q = f + (i : Int)) (hs : Spc w' p f (setL l i k true) g c) (hg : w.grownBy w' (some g)) : TakeP p f l g c k o w (.returned (.tuple #[ext q k, .bool true])) w' := by
  subst hq; exact .inl ⟨i, h, rfl, hs, hg⟩
theorem TakeP.yes {p : Nat} {f : Int} {l : List Bool} {g c : Nat} {k : Int} {w w' : World} {e : Ending} {i : Nat} (h : TakeP p f l g c k (some i) w e w') : e = .returned (.tuple #[ext (f + (i : Int)) k, .bool true]) ∧ Spc w' p f (setL l i k.toNat true) g c ∧ w.grownBy w' (some g) := by
  rcases h with ⟨j, h, h2⟩ | ⟨h, _⟩
  · injection h with h; subst h; exact h2
  · cases h
theorem TakeP.no {p : Nat} {f : Int} {l : List Bool} {g c : Nat} {k : Int} {w w' : World} {e : Ending} (h : TakeP p f l g c k none w e w') : e = .returned (.tuple #[ext 0 0, .bool false]) ∧ Later w w' := by
  rcases h with ⟨j, h, _⟩ | ⟨_, h⟩
  · cases h
  · exact h
theorem Blk.grown {w w' : World} {g : Nat} {cs : Array Value} {t : TypeId} {row : Option Nat} (h : Blk w g cs t) (hb : w.grownBy w' row) (hg : some g ≠ row) : Blk w' g cs t := (hb.block g h.lt hg).trans h
theorem Spc.far {w : World} {p g c : Nat} {f : Int} {l : List Bool} (h : Spc w p f l g c) {q : Addr} (h1 : p ≠ q.block) (h2 : g ≠ q.block) (v : Value) : Spc (w.setCell q v) p f l g c := by
  refine ⟨h.1.far h1 v, h.2.1, ?_⟩
  obtain ⟨h3, h4⟩ := h.2.2
  refine ⟨h3, ?_⟩
  rcases h4 with h4 | ⟨g', cap', cur, ha, hb, hg, hrest⟩
  · exact .inl h4
  · refine .inr ⟨g', cap', cur, ha, hb, ?_, hrest⟩
    injection ha with ha
    injection ha with ha
    injection ha with ha
    subst ha
    exact (Below.heap_setCell w q v g h2).trans hg
/-- The loop of Take. -/
def TkI (l : List Bool) (k n : Nat) (w : World) (fv iv : Value) (wr : World) : Prop :=
  ∃ i u : Nat, fv = .int .i64 u ∧ iv = .int .i64 i ∧ i ≤ n ∧ u < k ∧ freeS l i u ∧ noneS l i k ∧ wr = w
theorem TkI.mk {l : List Bool} {k n : Nat} {w wr : World} (a b : Int) (i u : Nat) (ha : a = (u : Int)) (hb : b = (i : Int)) (hi : i ≤ n) (hu : u < k) (h1 : freeS l i u) (h2 : noneS l i k) (hw : wr = w) : TkI l k n w (.int .i64 a) (.int .i64 b) wr := by
  subst ha hb; exact ⟨i, u, rfl, rfl, hi, hu, h1, h2, hw⟩

set_option maxRecDepth 100000 in
set_option maxHeartbeats 2000000 in
theorem spaceTake_low (v : Value) (k : Int) (w : World) (hv : v = .pointer none ∨ (∃ p, v = sptr p) ∧ k < 1) :
    Calls Tryd.prog 18 #[v, .int .i64 k] w fun e w' => e = .returned (.tuple #[ext 0 0, .bool false]) ∧ Later w w' := by
  have RB := Blk.new w #[.int .i64 0, .int .i64 0] 30 w.heap.size rfl
  have f0 := RB.frozen 0
  have f1 := RB.frozen 1
  have r0 := RB.cell 0 _ rfl
  have r1 := RB.cell 1 _ rfl
  have HL := Lib.hid (Later.new w (.cells #[.int .i64 0, .int .i64 0] 30))
  have HB := Lib.hid RB
  obtain ⟨w1, hw1⟩ : ∃ x, w.alloc (.cells #[.int .i64 0, .int .i64 0] 30) = x := ⟨_, rfl⟩
  rw [hw1] at f0 f1 r0 r1 HL HB
  obtain ⟨b, hb⟩ : ∃ x, w.heap.size = x := ⟨_, rfl⟩
  rw [hb] at f0 f1 r0 r1 HB
  have HBB := Lib.hid hb
  clear RB
  rcases hv with rfl | ⟨⟨p, rfl⟩, hk⟩
  all_goals try have d1 : decide (k < 1) = true := by simp; omega
  all_goals
    go_enter Tryd.func18, Tryd.ntmps18
    go_wp2_with fail
    have R4 := (HB.out.set_ 0 (.int .i64 0)).set_ 1 (.int .i64 0)
    have L4 := (HL.out.set_ (p := ⟨b, 0, none⟩) (show w.heap.size ≤ b by have := HBB.out; omega) (.int .i64 0)).set_ (p := ⟨b, 1, none⟩) (show w.heap.size ≤ b by have := HBB.out; omega) (.int .i64 0)
    obtain ⟨w4, hw4⟩ : ∃ w4, w4 = ((w1.setCell ⟨b, 0, none⟩ (.int .i64 0)).setCell ⟨b, 1, none⟩ (.int .i64 0)) := ⟨_, rfl⟩
    rw [← hw4] at R4 L4 ⊢
    have x0 := R4.cell 0 _ rfl
    have x1 := R4.cell 1 _ rfl
    exact bodyPost_ret (v := .tuple #[ext 0 0, .bool false]) (by simp [results, Tryd.results18, go_sem, x0, x1]) rfl ⟨rfl, L4⟩

set_option maxRecDepth 100000 in
set_option maxHeartbeats 2000000 in
theorem spaceTake_high (p : Nat) (f : Int) (l : List Bool) (g c : Nat) (k : Nat) (aB aO : Addr) (w : World) (h : Spc w p f l g c) (hs : S19 w aB aO) (hf : 0 ≤ f) (hf2 : f ≤ 1099511627776) (hl : l.length ≤ 4000) (hk : 1 ≤ k) :
    Calls Tryd.prog 18 #[sptr p, .int .i64 k] w (TakeP p f l g c k (fstS l k) w) := by
  have RB := Blk.new w #[.int .i64 0, .int .i64 0] 30 w.heap.size rfl
  have HL := Lib.hid (Later.new w (.cells #[.int .i64 0, .int .i64 0] 30))
  have HSp := Lib.hid (h.later HL.out)
  have HS := Lib.hid (hs.later HL.out)
  have HB := Lib.hid RB
  have HSpw := Lib.hid h
  have HSw := Lib.hid hs
  have HGL := Lib.hid h.glt
  have HPL := Lib.hid h.1.lt
  obtain ⟨w1, hw1⟩ : ∃ x, w.alloc (.cells #[.int .i64 0, .int .i64 0] 30) = x := ⟨_, rfl⟩
  rw [hw1] at HL HB HSp HS
  obtain ⟨b, hb⟩ : ∃ x, w.heap.size = x := ⟨_, rfl⟩
  rw [hb] at HB
  have HBB := Lib.hid hb
  have a0 := HSp.out.at0
  have a1 := HSp.out.at1
  obtain ⟨n, hn⟩ : ∃ n, n = l.length := ⟨_, rfl⟩
  rw [← hn] at a1
  have HN := Lib.hid hn
  have HK := Lib.hid hk
  have hn4 : n ≤ 4000 := by omega
  have d1 : decide ((k : Int) < 1) = false := by simp; omega
  have HF := Lib.hid hf
  have HF2 := Lib.hid hf2
  clear RB h hs hn hl hk
  go_enter Tryd.func18, Tryd.ntmps18
  go_wp2_with fail
  go_loopw [6, 22] (fun fv iv wr => TkI l k n w1 fv iv wr) (fun _ iv _ => n - (intOf iv).toNat)
  case atStart => exact TkI.mk 0 0 0 0 rfl rfl (Nat.zero_le _) (by have := HK.out; omega) (freeS_zero l) (noneS_zero HK.out) rfl
  case round =>
    obtain ⟨i, u, rfl, rfl, hi, hu, hfr, hno, rfl⟩ := hrel
    have HFR := Lib.hid hfr
    have HNO := Lib.hid hno
    have hu4 : u ≤ 4000 := by have := hfr.1; omega
    clear hfr hno
    by_cases hlt : i < n
    · have hlt' : i < l.length := by rw [← HN.out]; exact hlt
      have hcell := HSp.out.cell i hlt'
      obtain ⟨x, hx⟩ : ∃ x, x = l[i] := ⟨_, rfl⟩
      rw [← hx] at hcell
      have HX := Lib.hid (show l[i]? = some x by rw [List.getElem?_eq_getElem hlt', hx])
      clear hx hlt'
      cases x
      · by_cases he : u + 1 = k
        · have he1 : ((u : Int) + 1 == (k : Int)) = true := by simp; omega
          obtain ⟨s, hsd⟩ : ∃ s : Nat, i + 1 = s + k := ⟨i - u, by have := HFR.out.1; omega⟩
          have e1 : IntKind.i64.wrap (f + (i : Int)) = f + (i : Int) := IntWalk.i64_in _ ⟨by have := HF.out; omega, by have := HF2.out; omega⟩
          have e2 : IntKind.i64.wrap (f + (i : Int) + 1) = f + (i : Int) + 1 := IntWalk.i64_in _ ⟨by have := HF.out; omega, by have := HF2.out; omega⟩
          have e3 : IntKind.i64.wrap (f + (i : Int) + 1 - (k : Int)) = f + (s : Int) := by rw [IntWalk.i64_in _ ⟨by have := HF.out; omega, by have := HF2.out; omega⟩]; omega
          have E2 := Blk.new wr #[.int .i64 0, .int .i64 0] 30 wr.heap.size rfl
          have f0 := E2.frozen 0
          have f1 := E2.frozen 1
          clear E2
          go_wp2_with fail
          have hfk : freeS l (i + 1) k := he ▸ freeS_false HFR.out HX.out
          have HOK := Lib.hid (show fstS l (k : Int) = some s from fstS_some HK.out (by have := okS_of_free hfk (by rw [← HN.out]; omega); rw [show i + 1 - k = s from by omega] at this; exact this) (by have := noneS_lt HNO.out (show k ≤ i + 1 by omega); rw [show i + 1 - k = s from by omega] at this; exact this))
          have HOS := Lib.hid (fstS_inv HOK.out)
          have HT := Lib.hid (fun W (L : Later w W) => spaceTurn_yes p f l g c s k true aB aO W (HSpw.out.later L) (HSw.out.later L) HF.out HF2.out (by rw [← HN.out]; exact hn4) HK.out (by obtain ⟨m, hm, _, h, _⟩ := HOS.out; have h := h.1; omega) (by obtain ⟨m, hm, _, h, _⟩ := HOS.out; have hm : k = m := (by omega); rw [Bool.not_not, hm]; exact h.idx))
          obtain ⟨q, hq⟩ : ∃ q, q = f + (s : Int) := ⟨_, rfl⟩
          rw [← hq] at HT ⊢
          have HQ := Lib.hid hq
          have E2 := Blk.new wr #[.int .i64 q, .int .i64 k] 30 wr.heap.size rfl
          have L2 := HL.out.alloc (.cells #[.int .i64 q, .int .i64 k] 30)
          have R2 := HB.out.later (Later.new wr (.cells #[.int .i64 q, .int .i64 k] 30))
          obtain ⟨w2, hw2⟩ : ∃ x, wr.alloc (.cells #[.int .i64 q, .int .i64 k] 30) = x := ⟨_, rfl⟩
          rw [hw2] at E2 L2 R2 ⊢
          obtain ⟨b2, hb2⟩ : ∃ x, wr.heap.size = x := ⟨_, rfl⟩
          rw [hb2] at E2 ⊢
          have HBG := Lib.hid (show g ≠ b ∧ p ≠ b by have := HGL.out; have := HPL.out; omega)
          have HB2 := Lib.hid (show g ≠ b2 by have := HGL.out; have := HL.out.size; omega)
          have x0 := E2.cell 0 _ rfl
          have x1 := E2.cell 1 _ rfl
          have r0 := R2.cell 0 _ rfl
          have r1 := R2.cell 1 _ rfl
          have g0 := R2.frozen 0
          have g1 := R2.frozen 1
          have HE := Lib.hid E2
          have HR := Lib.hid R2
          have HL2 := Lib.hid L2
          have hwb : w.heap.size ≤ b := by omega
          have HWB := Lib.hid hwb
          clear E2 R2 L2 hfk hcell HX HFR HNO HOS f0 f1 hq he1 e1 e2 e3 hwb
          go_region_law (first
            | (go_simp; go_at_call 29; refine (HT.out w2.drew HL2.out.drew).mono ?_; rintro e w3 ⟨rfl, sp3, gr3⟩; have R3 := HR.out.drew.grown gr3 (by intro h; injection h with h; exact HBG.out.1 h.symm); have E3 := HE.out.drew.grown gr3 (by intro h; injection h with h; exact HB2.out h.symm); have he0 := E3.cell 0 _ rfl; have he1 := E3.cell 1 _ rfl; have hr0 := R3.cell 0 _ rfl; have hr1 := R3.cell 1 _ rfl; have hg0 := R3.frozen 0; have hg1 := R3.frozen 1)
            | (go_simp; go_at_call 29; refine (HT.out ((w2.drew.setCell ⟨b, 0, none⟩ (.int .i64 q)).setCell ⟨b, 1, none⟩ (.int .i64 k)) ((HL2.out.drew.set_ (p := ⟨b, 0, none⟩) HWB.out _).set_ (p := ⟨b, 1, none⟩) HWB.out _)).mono ?_; rintro e w3 ⟨rfl, sp3, gr3⟩; have R4 := ((HR.out.drew.set_ 0 (.int .i64 q)).set_ 1 (.int .i64 k)).grown gr3 (by intro h; injection h with h; exact HBG.out.1 h.symm); have gr4 := only_trans (((HL2.out.drew.set_ (p := ⟨b, 0, none⟩) HWB.out (.int .i64 q)).set_ (p := ⟨b, 1, none⟩) HWB.out (.int .i64 k)).grown (some g)) gr3))
          all_goals go_wp2_with fail
          all_goals first
            | (have R4 := (R3.set_ 0 (.int .i64 q)).set_ 1 (.int .i64 k)
               have sp4 := (sp3.far (q := ⟨b, 0, none⟩) HBG.out.2 HBG.out.1 (.int .i64 q)).far (q := ⟨b, 1, none⟩) HBG.out.2 HBG.out.1 (.int .i64 k)
               have gr4 := only_setCell (only_setCell (only_trans (HL2.out.drew.grown (some g)) gr3) (p := ⟨b, 0, none⟩) (.inr HWB.out) (.int .i64 q)) (p := ⟨b, 1, none⟩) (.inr HWB.out) (.int .i64 k)
               obtain ⟨w4, hw4⟩ : ∃ w4, w4 = ((w3.setCell ⟨b, 0, none⟩ (.int .i64 q)).setCell ⟨b, 1, none⟩ (.int .i64 k)) := ⟨_, rfl⟩
               rw [← hw4] at R4 sp4 gr4 ⊢
               have z0 := R4.cell 0 _ rfl
               have z1 := R4.cell 1 _ rfl
               exact bodyPost_ret (v := .tuple #[ext q k, .bool true]) (by simp [results, Tryd.results18, go_sem, z0, z1]) rfl (TakeP.mky HOK.out HQ.out sp4 gr4))
            | (have z0 := R4.cell 0 _ rfl
               have z1 := R4.cell 1 _ rfl
               exact bodyPost_ret (v := .tuple #[ext q k, .bool true]) (by simp [results, Tryd.results18, go_sem, z0, z1]) rfl (TakeP.mky HOK.out HQ.out sp3 gr4))
        · have he1 : ((u : Int) + 1 == (k : Int)) = false := by simp; omega
          go_wp2_with fail
          go_roundw
          case rel => exact TkI.mk _ _ (i + 1) (u + 1) (by go_num) (by go_num) (by omega) (by omega) (freeS_false HFR.out HX.out) (noneS_step HNO.out (freeS_false HFR.out HX.out) (by omega)) rfl
          case measure => simp [intOf]; omega
      · have he1 : ((0 : Int) == (k : Int)) = false := by have := HK.out; simp; omega
        go_wp2_with fail
        go_roundw
        case rel => exact TkI.mk _ _ (i + 1) 0 (by go_num) (by go_num) (by omega) (by have := HK.out; omega) (freeS_true HFR.out HX.out) (noneS_step HNO.out (freeS_true HFR.out HX.out) (by have := HK.out; omega)) rfl
        case measure => simp [intOf]; omega
    · obtain rfl : i = n := by omega
      have f0 := HB.out.frozen 0
      have f1 := HB.out.frozen 1
      have r0 := HB.out.cell 0 _ rfl
      have r1 := HB.out.cell 1 _ rfl
      go_wp2_with fail
      have R4 := (HB.out.set_ 0 (.int .i64 0)).set_ 1 (.int .i64 0)
      have L4 := (HL.out.set_ (p := ⟨b, 0, none⟩) (show w.heap.size ≤ b by have := HBB.out; omega) (.int .i64 0)).set_ (p := ⟨b, 1, none⟩) (show w.heap.size ≤ b by have := HBB.out; omega) (.int .i64 0)
      obtain ⟨w4, hw4⟩ : ∃ w4, w4 = ((wr.setCell ⟨b, 0, none⟩ (.int .i64 0)).setCell ⟨b, 1, none⟩ (.int .i64 0)) := ⟨_, rfl⟩
      rw [← hw4] at R4 L4 ⊢
      have x0 := R4.cell 0 _ rfl
      have x1 := R4.cell 1 _ rfl
      exact bodyPost_ret (v := .tuple #[ext 0 0, .bool false]) (by simp [results, Tryd.results18, go_sem, x0, x1]) rfl (.inr ⟨fstS_none fun j hj => HNO.out j (by rw [HN.out]; exact hj.1) hj, rfl, L4⟩)

theorem spaceTake_any (p : Nat) (f : Int) (l : List Bool) (g c : Nat) (k : Int) (aB aO : Addr) (w : World) (h : Spc w p f l g c) (hs : S19 w aB aO) (hf : 0 ≤ f) (hf2 : f ≤ 1099511627776) (hl : l.length ≤ 4000) :
    Calls Tryd.prog 18 #[sptr p, .int .i64 k] w (TakeP p f l g c k (fstS l k) w) := by
  by_cases hk : k < 1
  · refine (spaceTake_low (sptr p) k w (.inr ⟨⟨p, rfl⟩, hk⟩)).mono ?_
    rintro e w' ⟨rfl, l1⟩
    exact .inr ⟨fstS_low hk, rfl, l1⟩
  · obtain ⟨m, rfl⟩ := Int.eq_ofNat_of_zero_le (show 0 ≤ k by omega)
    exact spaceTake_high p f l g c m aB aO w h hs hf hf2 hl (by omega)

theorem wpList_append_run {P : Program} (w : World) {ops : Array Oper} {rest : List Oper} {o : Oper} {a : Act} {Q : Exit → Act → World → Prop} (hgd : o.guard = none) (s x : Operand) (t tn : TypeId)
    (ho : o.op = .call { callee := .builtin .append, args := #[s, x], argTypes := #[t, tn] }) (vs vx : Value) (hs : a.eval s = vs) (hx : a.eval x = vx)
    (v' : Value) (w' : World) (hr : (Builtin.append_ #[t, tn] o.type #[vs, vx]).run P w = .ok v' w')
    (h : wpList P ops Q rest (a.put o.dst v') w') : wpList P ops Q (o :: rest) a w := by
  refine wpList_plain hgd fun _ hK => ?_
  unfold Oper.wp execOp
  simp only [ho, resolve, invoke, builtin, Sem.run_bind, Sem.run_pure, Result.andThen_ok, List.map_toArray, List.map_cons, List.map_nil, hs, hx, hr]
  exact hK _ _ h
theorem ownB_some {w : World} {base : Nat} {e : TypeId} {A : Option Addr} {n c : Nat} {xs : List Value} (h : w.ownsRow base e 1 (.slice A n c) n xs) (hn : 0 < n) : ∃ gb, A = some ⟨gb, 0, none⟩ := by
  rcases h.2 with ⟨h1, _⟩ | ⟨gb, _, _, h1, _⟩
  · injection h1 with _ h2 _; omega
  · injection h1 with h2 h3 h4; exact ⟨gb, h2⟩
theorem append_nothing (a g c : Nat) (w : World) :
    (Builtin.append_ #[40, 40] 40 #[.slice (some ⟨a, 0, none⟩) 0 0, .slice (some ⟨g, 0, none⟩) 0 c]).run Tryd.prog w = .ok (.slice (some ⟨a, 0, none⟩) 0 0) w := by
  obtain ⟨i, hi, hz, hsz, hby⟩ := info_parts info_bool
  simp [Builtin.append_, run_underlying Tryd.underlying40, sizeOf, typeInfo, hi, Builtin.lenOf, Builtin.firstCells, storeCells, loadCells]
  rfl

set_option maxRecDepth 100000 in
set_option maxHeartbeats 1000000 in
theorem boolClone_any (g n c : Nat) (l : List Bool) (w : World) (hn : n = l.length) (hl : n ≤ 4000) (hr : Has w (some ⟨g, 0, none⟩) (bools l)) :
    Calls Tryd.prog 31 #[.slice (some ⟨g, 0, none⟩) n c] w fun e w' => ∃ g' c', e = .returned (.slice (some ⟨g', 0, none⟩) n c') ∧ w'.ownsRow w.heap.size 4 1 (.slice (some ⟨g', 0, none⟩) n c') n (bools l) ∧ Later w w' := by
  have q22 : ∀ (w : World) (a : Option Addr) (n c n' c' : Nat), (binOp .eql 40 (.slice a n c) (.slice none n' c')).run Tryd.prog w = .ok (.bool a.isNone) w := fun w a n c n' c' => Lib.run_eql_slice_nil w _ _ a n c n' c' Tryd.underlying40
  have l1 := Later.new w (.cells ([] : List Value).toArray 4)
  have OW := Lib.hid ((Blk.new w ([] : List Value).toArray 4 _ rfl).ownG (base := w.heap.size) (size := 1) (n := 0) (Nat.le_refl _) rfl (by decide))
  by_cases h0 : n = 0
  · subst h0
    have hl0 : l = [] := List.eq_nil_of_length_eq_zero hn.symm
    subst hl0
    have HL1 := Lib.hid l1
    clear hn hl hr l1
    go_enter Tryd.func31, Tryd.ntmps31
    go_wp2_with (at_builtin; refine wpList_append_run _ rfl (.tmp 5) (.tmp 6) 40 40 rfl _ _ rfl rfl _ _ (append_nothing _ _ _ _) ?_)
    go_ret
    exact ⟨_, _, rfl, OW.out, HL1.out⟩
  · have HR := Lib.hid (hr.later l1)
    have HL1 := Lib.hid l1
    have HN := Lib.hid hn
    have HNN := Lib.hid (show n = (bools l).length by rw [bools_length, hn])
    clear hr l1 hn
    go_enter Tryd.func31, Tryd.ntmps31
    go_wp2_with (at_builtin; refine wpList_append_rd _ rfl (.tmp 5) (.tmp 6) 40 rfl w.heap.size 4 (.bool false) 1 Tryd.underlying40 info_bool rfl _ 0 [] rfl OW.out _ (some ⟨g, 0, none⟩) n c (bools l) rfl HR.out.rd HNN.out (by intro h; cases h) (by intro u hu; obtain ⟨b, _, rfl⟩ := List.mem_map.1 hu; rfl) (by unfold maxLen; omega) (by omega) ?_ ?_; (exact HL1.out.size); intro A2 c2 w6 o2 g2 b2 n2; simp only [Nat.zero_add, List.nil_append] at o2; have HO2 := Lib.hid o2; have HB6 := Lib.hid (Later.of (HL1.out.below.trans b2)); clear o2 g2 b2 n2)
    obtain ⟨g', rfl⟩ := ownB_some HO2.out (by omega)
    go_ret
    exact ⟨g', c2, by simp, HO2.out, HB6.out⟩
end Go.Proofs.YtnmldploafpbdaaDoor
