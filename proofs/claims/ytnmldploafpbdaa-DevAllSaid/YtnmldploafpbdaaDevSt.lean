/- A device and the document's, side by side: what each deed makes of both. -/
import Derived.Test.YtnmldploafpbdaaDevCp
import Derived.Test.YtnmldploafpbdaaRefDvC
import Derived.Test.YtnmldploafpbdaaDeeds18
namespace Go.Proofs.Ytnmldploafpbdaa
open Go.RowKit
set_option linter.unusedVariables false

/-- What deeds on both leave of all else. -/
def KX (base : Nat) (w w' : World) : Prop := Below base w w' ∧ ∀ (b : Nat) (cs : Array Value) (t : TypeId), t ≠ 31 → t ≠ 59 → t ≠ 56 → t ≠ 9 → t ≠ 63 → t ≠ 46 → w.heap[b]? = some (Obj.cells cs t (0, 0)) → w'.heap[b]? = w.heap[b]?
section
variable {base : Nat} {w w' w'' : World}
theorem KX.refl (w : World) : KX base w w := ⟨Below.refl _ _, fun _ _ _ _ _ _ _ _ _ _ => rfl⟩
theorem KX.trans (h : KX base w w') (k : KX base w' w'') : KX base w w'' :=
  ⟨h.1.trans k.1, fun b cs t h1 h2 h3 h4 h5 h6 hb => (k.2 b cs t h1 h2 h3 h4 h5 h6 ((h.2 b cs t h1 h2 h3 h4 h5 h6 hb).trans hb)).trans (h.2 b cs t h1 h2 h3 h4 h5 h6 hb)⟩
theorem KX.later (h : Later w w') (hb : base ≤ w.heap.size) : KX base w w' := ⟨Below.mono h.below hb, fun b cs t _ _ _ _ _ _ hb => Below.block h b (Array.getElem?_eq_some_iff.1 hb).1⟩
theorem KX.kd (h : KD w w') (k : Below base w w') : KX base w w' := ⟨k, fun b cs t h1 h2 h3 _ _ _ hb => h.2.2.2.2 b cs t h1 h2 h3 hb⟩
theorem KX.kr (h : KR w w') (k : Below base w w') : KX base w w' := ⟨k, fun b cs t _ _ _ h4 h5 h6 hb => h.2.2.2.2 b cs t h4 h5 h6 hb⟩
theorem KX.blk {g : Nat} {cs : Array Value} {t : TypeId} (k : KX base w w') (h : Blk w g cs t) (h1 : t ≠ 31) (h2 : t ≠ 59) (h3 : t ≠ 56) (h4 : t ≠ 9) (h5 : t ≠ 63) (h6 : t ≠ 46) : Blk w' g cs t := (k.2 g cs t h1 h2 h3 h4 h5 h6 h).trans h
theorem KX.row {g : Nat} {l : List Nat} (k : KX base w w') (h : Row w g 5 .u8 l) : Row w' g 5 .u8 l := (k.2 g _ _ (by decide) (by decide) (by decide) (by decide) (by decide) (by decide) h).trans h
end
/-- A device and the document's in memory. -/
def St (base p r B : Nat) (d dr : D) (w : World) : Prop := (∃ gs gn cs cn A cf, DA w base p gs gn B cs cn A cf d) ∧ (∃ gs gn cs cn A cf, RA w base r gs gn B cs cn A cf dr) ∧ base ≤ w.heap.size
theorem St.later {base p r B : Nat} {d dr : D} {w w' : World} (h : St base p r B d dr w) (l : Later w w') : St base p r B d dr w' := by
  obtain ⟨⟨_, _, _, _, _, _, h1⟩, ⟨_, _, _, _, _, _, h2⟩, h3⟩ := h
  exact ⟨⟨_, _, _, _, _, _, h1.later l⟩, ⟨_, _, _, _, _, _, RR.later h2 l⟩, Nat.le_trans h3 l.size⟩
/-- What is so of a device behind at most i deeds. -/
structure Iv (B i : Nat) (d : D) : Prop where
  fl : d.fly.length ≤ i
  wr : d.writes ≤ i ∧ 0 ≤ d.writes
  fx : ∀ x ∈ d.fly, x.1 < B ∧ x.2.length = 128 ∧ ∀ y ∈ x.2, y < 256
  sx : ∀ x ∈ d.sure, x.length = 128 ∧ ∀ y ∈ x, y < 256
  nx : ∀ x ∈ d.now, x.length = 128 ∧ ∀ y ∈ x, y < 256
  sl : d.sure.length = B
  nl : d.now.length = B
  lay : layAll d.sure d.fly = d.now
  lf : d.stops = true → 0 ≤ d.left ∧ d.left ≤ 9223372036854775807
/-- A write, or none. -/
def D.wrT (d : D) (i : Int) (b : List Nat) (B : Nat) : D := if 0 ≤ i ∧ i < B ∧ b.length = 128 ∧ d.stopped = false then d.wr i.toNat b else d
def D.flT (d : D) : D := if d.stopped then d else d.fl
def D.rd (d : D) (i : Int) (B : Nat) : List Nat := if 0 ≤ i ∧ i < B then d.now.getD i.toNat [] else []
section
variable {B i : Nat} {d : D}
theorem Iv.new (B : Nat) : Iv B 0 (newD B) := by
  have hz : ∀ x ∈ List.replicate B z128, x.length = 128 ∧ ∀ y ∈ x, y < 256 := fun x hx => by
    rw [(List.mem_replicate.1 hx).2]
    exact ⟨rfl, fun y hy => by have := (List.mem_replicate.1 hy).2; omega⟩
  exact ⟨Nat.le_refl _, ⟨Int.le_refl _, Int.le_refl _⟩, fun x hx => (by cases hx), hz, hz, List.length_replicate, List.length_replicate, rfl, fun h => by cases h⟩
theorem Iv.mono {j : Nat} (h : Iv B i d) (hj : i ≤ j) : Iv B j d := ⟨Nat.le_trans h.fl hj, ⟨by have := h.wr.1; omega, h.wr.2⟩, h.fx, h.sx, h.nx, h.sl, h.nl, h.lay, h.lf⟩
theorem Iv.wr' (h : Iv B i d) {r : Nat} {b : List Nat} (hr : r < B) (hb : b.length = 128) (h256 : ∀ y ∈ b, y < 256) (hs : d.stopped = false) : Iv B (i + 1) (d.wr r b) := by
  refine ⟨?_, ?_, ?_, h.sx, ?_, h.sl, ?_, ?_, ?_⟩
  · show (d.fly ++ [(r, b)]).length ≤ _; rw [List.length_append]; have := h.fl; simp; exact this
  · show d.writes + 1 ≤ _ ∧ 0 ≤ d.writes + 1; have := h.wr; omega
  · intro x hx
    rcases List.mem_append.1 hx with hx | hx
    · exact h.fx x hx
    · rw [List.mem_singleton] at hx; subst hx; exact ⟨hr, hb, h256⟩
  · exact set_all h.nx fun _ => ⟨hb, h256⟩
  · show (d.now.set r b).length = B; rw [List.length_set]; exact h.nl
  · show layAll d.sure (d.fly ++ [(r, b)]) = d.now.set r b; rw [layAll_snoc, h.lay]
  · intro hst
    have h0 : d.stops = true := hst
    have h1 := h.lf h0
    unfold D.stopped at hs
    rw [h0] at hs
    have h2 : ¬ d.left ≤ 0 := by simpa using hs
    show 0 ≤ wrap64 (d.left - 1) ∧ wrap64 (d.left - 1) ≤ _
    unfold wrap64; omega
theorem Iv.wrT (h : Iv B i d) (r : Int) {b : List Nat} (h256 : ∀ y ∈ b, y < 256) : Iv B (i + 1) (d.wrT r b B) := by
  unfold D.wrT
  split
  · rename_i hc; exact h.wr' (by omega) hc.2.2.1 h256 hc.2.2.2
  · exact h.mono (Nat.le_succ _)
theorem Iv.fl' (h : Iv B i d) : Iv B i d.fl := by
  have hl : layAll d.sure d.fly = d.now := h.lay
  refine ⟨Nat.zero_le _, h.wr, fun x hx => (by cases hx), ?_, h.nx, ?_, h.nl, ?_, h.lf⟩
  · show ∀ x ∈ layAll d.sure d.fly, _; rw [hl]; exact h.nx
  · show (layAll d.sure d.fly).length = B; rw [hl]; exact h.nl
  · exact hl
theorem Iv.flT (h : Iv B i d) : Iv B i d.flT := by
  unfold D.flT; split
  · exact h
  · exact h.fl'
theorem Iv.st (h : Iv B i d) (n : Int) (hn : DIn n) : Iv B i (d.st n) :=
  ⟨h.fl, h.wr, h.fx, h.sx, h.nx, h.sl, h.nl, h.lay, fun hs => ⟨by simpa [D.st] using hs, hn.2⟩⟩
theorem crashJ_len (keep : List Nat) (torn at_ : Int) (F : List (Nat × List Nat)) (s : List (List Nat)) (j : Nat) : (crashJ keep torn at_ F s j).length = s.length := by
  induction j with
  | zero => rfl
  | succ j ih => show (stepC _ _ _ _ _ _).length = _; rw [stepC_len, ih]
theorem Iv.cr (h : Iv B i d) (keep : List Nat) (torn at_ : Int) : Iv B i (d.cr keep torn at_) := by
  have h1 := crashJ_128 keep torn at_ d.fly d.sure (fun x hx => (h.fx x hx).2.1) (fun x hx => (h.sx x hx).1) d.fly.length (Nat.le_refl _)
  have h2 := crashJ_256 keep torn at_ d.fly d.sure (fun x hx => (h.fx x hx).2.2) (fun x hx => (h.sx x hx).2) d.fly.length (Nat.le_refl _)
  have h3 : (crashJ keep torn at_ d.fly d.sure d.fly.length).length = B := by rw [crashJ_len]; exact h.sl
  exact ⟨Nat.zero_le _, h.wr, fun x hx => (by cases hx), fun x hx => ⟨h1 x hx, h2 x hx⟩, fun x hx => ⟨h1 x hx, h2 x hx⟩, h3, h3, rfl, fun h => by cases h⟩
theorem Iv.stopR (h : Iv B i d) : (leftR d == 0) = d.stopped := by
  unfold leftR D.stopped
  by_cases h0 : d.stops = true
  · have := h.lf h0
    simp only [h0, if_true, Bool.true_and]
    rw [Bool.eq_iff_iff]; simp; omega
  · have h0 : d.stops = false := by simpa using h0
    simp [h0]
theorem Iv.rdlt (h : Iv B i d) (x : Int) : ∀ y ∈ d.rd x B, y < 256 := by
  unfold D.rd; split
  · rename_i hc
    rw [List.getD, List.getElem?_eq_getElem (by rw [h.nl]; omega)]
    exact (h.nx _ (List.getElem_mem _)).2
  · intro y hy; cases hy
end
section
variable {base p r B i : Nat} {d dr : D} {w : World}
theorem sWrite (h : St base p r B d dr w) (iv : Iv B i d) (hB : 1 ≤ B ∧ B ≤ 4000) (hi : i ≤ 1000) (x : Int) (A2 : Option Addr) (n c : Nat) (b : List Nat) (hn : n = b.length) (hr : Has w A2 (ints .u8 b)) (h256 : ∀ y ∈ b, y < 256) (hnil : A2 = none → c = 0) :
    Calls Try.prog 18 #[dptr p, .int .i64 x, .slice A2 n c] w fun e w' => e = .returned (.bool (decide (0 ≤ x ∧ x < B ∧ n = 128))) ∧ St base p r B (d.wrT x b B) dr w' ∧ KX base w w' := by
  obtain ⟨⟨gs, gn, cs, cn, A, cf, h1⟩, ⟨gs2, gn2, cs2, cn2, A3, cf2, h2⟩, hb⟩ := h
  by_cases ho : 0 ≤ x ∧ x < B ∧ n = 128
  · obtain ⟨k, rfl⟩ := Int.eq_ofNat_of_zero_le ho.1
    obtain rfl := ho.2.2
    by_cases hs : d.stopped = true
    · refine (devWrite_stopped base p gs gn B cs cn A cf d k A2 c w h1 (by omega) hs).mono ?_
      rintro e w' ⟨rfl, rfl⟩
      exact ⟨by rw [decide_eq_true ho], ⟨⟨gs, gn, cs, cn, A, cf, by unfold D.wrT; rw [if_neg (by rw [hs]; simp)]; exact h1⟩, ⟨gs2, gn2, cs2, cn2, A3, cf2, h2⟩, hb⟩, KX.refl _⟩
    · have hs : d.stopped = false := by simpa using hs
      refine (devWrite_yes base p gs gn B cs cn A cf d k A2 c b w h1 (by omega) hB.2 hs hn.symm hr h256 (by have := iv.fl; omega) (by have := iv.wr; omega) hb hnil).mono ?_
      rintro e w' ⟨rfl, ⟨cs', cn', A', cf', h3⟩, kd, bl⟩
      exact ⟨by rw [decide_eq_true ho], ⟨⟨gs, gn, cs', cn', A', cf', by unfold D.wrT; rw [if_pos ⟨ho.1, ho.2.1, hn.symm, hs⟩]; exact h3⟩, ⟨gs2, gn2, cs2, cn2, A3, cf2, RR.kd h2 kd⟩, Nat.le_trans hb bl.size⟩, KX.kd kd bl⟩
  · refine (devWrite_no base p gs gn B cs cn A cf d x A2 n c w h1 ho).mono ?_
    rintro e w' ⟨rfl, rfl⟩
    exact ⟨by rw [decide_eq_false ho], ⟨⟨gs, gn, cs, cn, A, cf, by unfold D.wrT; rw [if_neg (by rw [← hn]; exact fun hh => ho ⟨hh.1, hh.2.1, hh.2.2.1⟩)]; exact h1⟩, ⟨gs2, gn2, cs2, cn2, A3, cf2, h2⟩, hb⟩, KX.refl _⟩
theorem rWrite (h : St base p r B d dr w) (iv : Iv B i dr) (hB : 1 ≤ B ∧ B ≤ 4000) (hi : i ≤ 1000) (x : Int) (A2 : Option Addr) (n c : Nat) (b : List Nat) (hn : n = b.length) (hr : ∀ W, KX base w W → Has W A2 (ints .u8 b)) :
    Calls Try.prog 21 #[dptr r, .int .i64 x, .slice A2 n c] w fun e w' => e = .returned (.bool (decide (0 ≤ x ∧ x < B ∧ n = 128))) ∧ St base p r B d (dr.wrT x b B) w' ∧ KX base w w' := by
  obtain ⟨⟨gs2, gn2, cs2, cn2, A3, cf2, h2⟩, ⟨gs, gn, cs, cn, A, cf, h1⟩, hb⟩ := h
  have k1 : w.cell? ⟨r, 1, none⟩ = some (.slice (some ⟨gn, 0, none⟩) B cn) := h1.1.cell 1 _ rfl
  have k4 : w.cell? ⟨r, 4, none⟩ = some (.int .i64 (leftR dr)) := h1.1.cell 4 _ rfl
  by_cases ho : 0 ≤ x ∧ x < B ∧ n = 128
  · obtain ⟨k, rfl⟩ := Int.eq_ofNat_of_zero_le ho.1
    obtain rfl := ho.2.2
    by_cases hs : dr.stopped = true
    · have hl : leftR dr = 0 := by have := iv.stopR; rw [hs] at this; simpa using this
      rw [hl] at k4
      refine (refWrite_stopped r gn B cn k A2 c w k1 k4 (by omega)).mono ?_
      rintro e w' ⟨rfl, rfl⟩
      exact ⟨by rw [decide_eq_true ho], ⟨⟨gs2, gn2, cs2, cn2, A3, cf2, h2⟩, ⟨gs, gn, cs, cn, A, cf, by unfold D.wrT; rw [if_neg (by rw [hs]; simp)]; exact h1⟩, hb⟩, KX.refl _⟩
    · have hs : dr.stopped = false := by simpa using hs
      refine (refWrite_yes base r gs gn B cs cn A cf dr k A2 c b w h1 (by omega) hB.2 hs iv.lf hn.symm (fun W k1 k2 => hr W (KX.kr k1 k2)) (by have := iv.fl; omega) (by have := iv.wr; omega) hb).mono ?_
      rintro e w' ⟨rfl, ⟨gs', gn', cs', cn', A', cf', h3⟩, kr, bl⟩
      exact ⟨by rw [decide_eq_true ho], ⟨⟨gs2, gn2, cs2, cn2, A3, cf2, DA.kr h2 kr⟩, ⟨gs', gn', cs', cn', A', cf', by unfold D.wrT; rw [if_pos ⟨ho.1, ho.2.1, hn.symm, hs⟩]; exact h3⟩, Nat.le_trans hb bl.size⟩, KX.kr kr bl⟩
  · refine (refWrite_no r gn B cn x A2 n c w k1 ho).mono ?_
    rintro e w' ⟨rfl, rfl⟩
    exact ⟨by rw [decide_eq_false ho], ⟨⟨gs2, gn2, cs2, cn2, A3, cf2, h2⟩, ⟨gs, gn, cs, cn, A, cf, by unfold D.wrT; rw [if_neg (by rw [← hn]; exact fun hh => ho ⟨hh.1, hh.2.1, hh.2.2.1⟩)]; exact h1⟩, hb⟩, KX.refl _⟩
theorem sFlush (h : St base p r B d dr w) (iv : Iv B i d) (hB : 1 ≤ B ∧ B ≤ 4000) (hi : i ≤ 1000) :
    Calls Try.prog 11 #[dptr p] w fun e w' => e = .returned (.tuple #[]) ∧ St base p r B d.flT dr w' ∧ KX base w w' := by
  obtain ⟨⟨gs, gn, cs, cn, A, cf, h1⟩, ⟨gs2, gn2, cs2, cn2, A3, cf2, h2⟩, hb⟩ := h
  by_cases hs : d.stopped = true
  · refine (devFlush_stopped p d.stops d.left w h1.c4 h1.c5 hs).mono ?_
    rintro e w' ⟨rfl, rfl⟩
    exact ⟨rfl, ⟨⟨gs, gn, cs, cn, A, cf, by unfold D.flT; rw [if_pos hs]; exact h1⟩, ⟨gs2, gn2, cs2, cn2, A3, cf2, h2⟩, hb⟩, KX.refl _⟩
  · have hs : d.stopped = false := by simpa using hs
    refine (devFlush_any base p gs gn B cs cn A cf d w h1 hB.2 hs (by have := iv.fl; omega) (fun x hx => (iv.fx x hx).1) hb).mono ?_
    rintro e w' ⟨rfl, ⟨cs', cn', A', cf', h3⟩, kd, bl⟩
    exact ⟨rfl, ⟨⟨gs, gn, cs', cn', A', cf', by unfold D.flT; rw [if_neg (by rw [hs]; simp)]; exact h3⟩, ⟨gs2, gn2, cs2, cn2, A3, cf2, RR.kd h2 kd⟩, Nat.le_trans hb bl.size⟩, KX.kd kd bl⟩
theorem rFlush (h : St base p r B d dr w) (iv : Iv B i dr) (hB : 1 ≤ B ∧ B ≤ 4000) :
    Calls Try.prog 12 #[dptr r] w fun e w' => e = .returned (.tuple #[]) ∧ St base p r B d dr.flT w' ∧ KX base w w' := by
  obtain ⟨⟨gs2, gn2, cs2, cn2, A3, cf2, h2⟩, ⟨gs, gn, cs, cn, A, cf, h1⟩, hb⟩ := h
  have k4 : w.cell? ⟨r, 4, none⟩ = some (.int .i64 (leftR dr)) := h1.1.cell 4 _ rfl
  have hst := iv.stopR
  by_cases hs : dr.stopped = true
  · have hl : leftR dr = 0 := by rw [hs] at hst; simpa using hst
    rw [hl] at k4
    refine (refFlush_stopped r w k4).mono ?_
    rintro e w' ⟨rfl, rfl⟩
    exact ⟨rfl, ⟨⟨gs2, gn2, cs2, cn2, A3, cf2, h2⟩, ⟨gs, gn, cs, cn, A, cf, by unfold D.flT; rw [if_pos hs]; exact h1⟩, hb⟩, KX.refl _⟩
  · have hs : dr.stopped = false := by simpa using hs
    have hl : leftR dr ≠ 0 := by rw [hs] at hst; simpa using hst
    refine (refFlush_yes base r gs gn B cs cn A cf dr w h1 hB hl iv.lay hb).mono ?_
    rintro e w' ⟨rfl, ⟨gs', gn', cs', cn', A', cf', h3⟩, kr, bl⟩
    exact ⟨rfl, ⟨⟨gs2, gn2, cs2, cn2, A3, cf2, DA.kr h2 kr⟩, ⟨gs', gn', cs', cn', A', cf', by unfold D.flT; rw [if_neg (by rw [hs]; simp)]; exact h3⟩, Nat.le_trans hb bl.size⟩, KX.kr kr bl⟩
theorem sStop (h : St base p r B d dr w) (n : Int) :
    Calls Try.prog 13 #[dptr p, .int .i64 n] w fun e w' => e = .returned (.tuple #[]) ∧ St base p r B (d.st n) dr w' ∧ KX base w w' := by
  obtain ⟨⟨gs, gn, cs, cn, A, cf, h1⟩, ⟨gs2, gn2, cs2, cn2, A3, cf2, h2⟩, hb⟩ := h
  refine (devStop_any base p gs gn B cs cn A cf d n w h1 hb).mono ?_
  rintro e w' ⟨rfl, ⟨cs', cn', A', cf', h3⟩, kd, bl⟩
  exact ⟨rfl, ⟨⟨gs, gn, cs', cn', A', cf', h3⟩, ⟨gs2, gn2, cs2, cn2, A3, cf2, RR.kd h2 kd⟩, Nat.le_trans hb bl.size⟩, KX.kd kd bl⟩
theorem rStop (h : St base p r B d dr w) (n : Int) :
    Calls Try.prog 14 #[dptr r, .int .i64 n] w fun e w' => e = .returned (.tuple #[]) ∧ St base p r B d (dr.st n) w' ∧ KX base w w' := by
  obtain ⟨⟨gs2, gn2, cs2, cn2, A3, cf2, h2⟩, ⟨gs, gn, cs, cn, A, cf, h1⟩, hb⟩ := h
  refine (refStop_any base r gs gn B cs cn A cf dr n w h1 hb).mono ?_
  rintro e w' ⟨rfl, ⟨gs', gn', cs', cn', A', cf', h3⟩, kr, bl⟩
  exact ⟨rfl, ⟨⟨gs2, gn2, cs2, cn2, A3, cf2, DA.kr h2 kr⟩, ⟨gs', gn', cs', cn', A', cf', h3⟩, Nat.le_trans hb bl.size⟩, KX.kr kr bl⟩
theorem sCrash (h : St base p r B d dr w) (iv : Iv B i d) (hB : 1 ≤ B ∧ B ≤ 4000) (hi : i ≤ 1000) (KA : Option Addr) (n c : Nat) (keep : List Nat) (torn at_ : Int) (hn : n = keep.length) (hn2 : n ≤ 1000) (hr : ∀ W, KX base w W → Has W KA (ints .u8 keep)) (h256 : ∀ x ∈ keep, x < 256) :
    Calls Try.prog 15 #[dptr p, .slice KA n c, .int .i64 torn, .int .i64 at_] w fun e w' => e = .returned (.tuple #[]) ∧ St base p r B (d.cr keep torn at_) dr w' ∧ KX base w w' := by
  obtain ⟨⟨gs, gn, cs, cn, A, cf, h1⟩, ⟨gs2, gn2, cs2, cn2, A3, cf2, h2⟩, hb⟩ := h
  refine (devCrash_gen base p gs gn B cs cn A cf d KA n c keep torn at_ w h1 hB (by have := iv.fl; omega) (fun x hx => (iv.fx x hx).1) hb hn hn2 (fun W kd bl => hr W (KX.kd kd bl)) h256).mono ?_
  rintro e w' ⟨rfl, ⟨gn', cs', cn', A', cf', h3⟩, kd, bl⟩
  exact ⟨rfl, ⟨⟨gs, gn', cs', cn', A', cf', h3⟩, ⟨gs2, gn2, cs2, cn2, A3, cf2, RR.kd h2 kd⟩, Nat.le_trans hb bl.size⟩, KX.kd kd bl⟩
theorem rCrash (h : St base p r B d dr w) (iv : Iv B i dr) (hB : 1 ≤ B ∧ B ≤ 4000) (hi : i ≤ 1000) (KA : Option Addr) (n c : Nat) (keep : List Nat) (torn at_ : Int) (hn : n = keep.length) (hn2 : n ≤ 1000) (hr : ∀ W, KX base w W → Has W KA (ints .u8 keep)) (h256 : ∀ x ∈ keep, x < 256) :
    Calls Try.prog 16 #[dptr r, .slice KA n c, .int .i64 torn, .int .i64 at_] w fun e w' => e = .returned (.tuple #[]) ∧ St base p r B d (dr.cr keep torn at_) w' ∧ KX base w w' := by
  obtain ⟨⟨gs2, gn2, cs2, cn2, A3, cf2, h2⟩, ⟨gs, gn, cs, cn, A, cf, h1⟩, hb⟩ := h
  refine (refCrash_any base r gs gn B cs cn A cf dr KA n c keep torn at_ w h1 hB (by have := iv.fl; omega) (fun x hx => ⟨(iv.fx x hx).1, (iv.fx x hx).2.1⟩) (fun x hx => (iv.sx x hx).1) hb hn hn2 (fun W kr bl => hr W (KX.kr kr bl)) h256).mono ?_
  rintro e w' ⟨rfl, ⟨gs', gn', cs', cn', A', cf', h3⟩, kr, bl⟩
  exact ⟨rfl, ⟨⟨gs2, gn2, cs2, cn2, A3, cf2, DA.kr h2 kr⟩, ⟨gs', gn', cs', cn', A', cf', h3⟩, Nat.le_trans hb bl.size⟩, KX.kr kr bl⟩
/-- What a Read tells. -/
def TellR (l : List Nat) (ok : Bool) (w : World) (e : Ending) (w' : World) : Prop := ∃ Ax c, e = .returned (.tuple #[.slice Ax l.length c, .bool ok]) ∧ Has w' Ax (ints .u8 l) ∧ Later w w'
theorem sRead (h : St base p r B d dr w) (iv : Iv B i d) (hB : 1 ≤ B ∧ B ≤ 4000) (x : Int) :
    Calls Try.prog 23 #[dptr p, .int .i64 x] w (TellR (d.rd x B) (decide (0 ≤ x ∧ x < B)) w) := by
  obtain ⟨⟨gs, gn, cs, cn, A, cf, h1⟩, _, hb⟩ := h
  by_cases ho : 0 ≤ x ∧ x < B
  · obtain ⟨k, rfl⟩ := Int.eq_ofNat_of_zero_le ho.1
    have hk : k < B := by omega
    refine (devRead_any base p gs gn B cs cn A cf d k w h1 hk hB.2).mono ?_
    rintro e w' ⟨v, rfl, hv, l, Ax, c, rfl⟩
    have hrd : d.rd (k : Int) B = d.now[k]'(by rw [iv.nl]; exact hk) := by
      unfold D.rd; rw [if_pos ho, List.getD, List.getElem?_eq_getElem (by rw [iv.nl]; exact hk)]; rfl
    obtain ⟨b, o, c2, h3, h4, h5, h6⟩ := hv.has
    injection h3 with h3 _ h7
    subst h3 h7
    have hl := hv.1
    exact ⟨_, c, by rw [hrd, hl, decide_eq_true ho], by rw [hrd]; exact h6, l⟩
  · refine (devRead_no p gn B cn x w h1.c1 ho).mono ?_
    rintro e w' ⟨rfl, rfl⟩
    have hrd : d.rd x B = [] := by unfold D.rd; rw [if_neg ho]
    exact ⟨none, 0, by rw [hrd, decide_eq_false ho]; rfl, by rw [hrd]; exact Has.nil_, Later.refl _⟩
theorem rRead (h : St base p r B d dr w) (iv : Iv B i dr) (hB : 1 ≤ B ∧ B ≤ 4000) (x : Int) :
    Calls Try.prog 24 #[dptr r, .int .i64 x] w (TellR (dr.rd x B) (decide (0 ≤ x ∧ x < B)) w) := by
  obtain ⟨_, ⟨gs, gn, cs, cn, A, cf, h1⟩, hb⟩ := h
  have k1 : w.cell? ⟨r, 1, none⟩ = some (.slice (some ⟨gn, 0, none⟩) B cn) := h1.1.cell 1 _ rfl
  by_cases ho : 0 ≤ x ∧ x < B
  · obtain ⟨k, rfl⟩ := Int.eq_ofNat_of_zero_le ho.1
    have hk : k < B := by omega
    have hkn : k < dr.now.length := by rw [iv.nl]; exact hk
    refine (refRead_any r gn B cn base dr.now k w k1 h1.2.2.1 hk hB.2 iv.nl (iv.nx _ (List.getElem_mem hkn)).2).mono ?_
    rintro e w' ⟨g, c, rfl, hh, l⟩
    have hrd : dr.rd (k : Int) B = dr.now[k] := by
      unfold D.rd; rw [if_pos ho, List.getD, List.getElem?_eq_getElem (by rw [iv.nl]; exact hk)]; rfl
    exact ⟨_, c, by rw [hrd, decide_eq_true ho], by rw [hrd]; exact hh, l⟩
  · refine (refRead_no r gn B cn x w k1 ho).mono ?_
    rintro e w' ⟨rfl, rfl⟩
    have hrd : dr.rd x B = [] := by unfold D.rd; rw [if_neg ho]
    exact ⟨none, 0, by rw [hrd, decide_eq_false ho]; rfl, by rw [hrd]; exact Has.nil_, Later.refl _⟩
theorem sStopped (h : St base p r B d dr w) : Calls Try.prog 26 #[dptr p] w fun e w' => e = .returned (.bool d.stopped) ∧ w' = w := by
  obtain ⟨⟨gs, gn, cs, cn, A, cf, h1⟩, _, hb⟩ := h
  exact devStopped_any p d.stops d.left w h1.c4 h1.c5
theorem rStopped (h : St base p r B d dr w) (iv : Iv B i dr) : Calls Try.prog 27 #[dptr r] w fun e w' => e = .returned (.bool dr.stopped) ∧ w' = w := by
  obtain ⟨_, ⟨gs, gn, cs, cn, A, cf, h1⟩, hb⟩ := h
  rw [← iv.stopR]
  exact refStopped_any r (leftR dr) w (h1.1.cell 4 _ rfl)
theorem sWrites (h : St base p r B d dr w) : Calls Try.prog 25 #[dptr p] w fun e w' => e = .returned (.int .i64 d.writes) ∧ w' = w := by
  obtain ⟨⟨gs, gn, cs, cn, A, cf, h1⟩, _, hb⟩ := h
  exact devWrites_any p d.writes w h1.c3
theorem rWrites (h : St base p r B d dr w) : w.cell? ⟨r, 3, none⟩ = some (.int .i64 dr.writes) := by
  obtain ⟨_, ⟨gs, gn, cs, cn, A, cf, h1⟩, hb⟩ := h
  exact h1.1.cell 3 _ rfl
theorem sBlocks (h : St base p r B d dr w) : Calls Try.prog 28 #[dptr p] w fun e w' => e = .returned (.int .i64 B) ∧ w' = w := by
  obtain ⟨⟨gs, gn, cs, cn, A, cf, h1⟩, _, hb⟩ := h
  exact devBlocks_any p gn B cn w h1.c1
/-- A device, its copy, and the document's. -/
def StC (base t p q r B : Nat) (dp dq dr : D) (w : World) : Prop :=
  (∃ gs gn cs cn A cf, DA w base p gs gn B cs cn A cf dp ∧ p < t ∧ gs < t ∧ gn < t ∧ ∀ y, (Value.slice A dp.fly.length cf).ownBlock = some y → y < t) ∧ (∃ gs gn cs cn A cf, DA w t q gs gn B cs cn A cf dq) ∧ (∃ gs gn cs cn A cf, RA w base r gs gn B cs cn A cf dr) ∧ base ≤ t ∧ t ≤ w.heap.size
def StF (base t p q r B : Nat) (dp dq dr : D) (w : World) : Prop :=
  (∃ gs gn cs cn A cf, DA w base p gs gn B cs cn A cf dp ∧ p < t ∧ gs < t) ∧ (∃ gs gn cs cn A cf, DA w t q gs gn B cs cn A cf dq) ∧ (∃ gs gn cs cn A cf, RA w base r gs gn B cs cn A cf dr) ∧ base ≤ t ∧ t ≤ w.heap.size
theorem StC.later {t q : Nat} {dp dq : D} {w' : World} (h : StC base t p q r B dp dq dr w) (l : Later w w') : StC base t p q r B dp dq dr w' := by
  obtain ⟨⟨_, _, _, _, _, _, h1, hx⟩, ⟨_, _, _, _, _, _, h2⟩, ⟨_, _, _, _, _, _, h4⟩, h5, h6⟩ := h
  exact ⟨⟨_, _, _, _, _, _, h1.later l, hx⟩, ⟨_, _, _, _, _, _, h2.later l⟩, ⟨_, _, _, _, _, _, RR.later h4 l⟩, h5, Nat.le_trans h6 l.size⟩
theorem sCopy (h : St base p r B d dr w) (iv : Iv B i d) (hB : 1 ≤ B ∧ B ≤ 4000) (hi : i ≤ 1000) :
    Calls Try.prog 17 #[dptr p] w fun e w' => ∃ q, e = .returned (dptr q) ∧ StC base w.heap.size p q r B d d dr w' ∧ Later w w' := by
  obtain ⟨⟨gs, gn, cs, cn, A, cf, h1⟩, ⟨gs2, gn2, cs2, cn2, A3, cf2, h2⟩, hb⟩ := h
  refine (devCopy_any base p gs gn B cs cn A cf d w h1 hB (by have := iv.fl; omega)).mono ?_
  rintro e w' ⟨q, _, _, _, _, _, _, rfl, h3, l⟩
  exact ⟨q, rfl, ⟨⟨_, _, _, _, _, _, h1.later l, h1.lts (Nat.le_refl _)⟩, ⟨_, _, _, _, _, _, h3⟩, ⟨_, _, _, _, _, _, RR.later h2 l⟩, hb, l.size⟩, l⟩
theorem sWriteC {t q : Nat} {dp dq : D} (h : StC base t p q r B dp dq dr w) (iv : Iv B i dp) (hB : 1 ≤ B ∧ B ≤ 4000) (hi : i ≤ 1000) (A2 : Option Addr) (c : Nat) (b : List Nat) (hn : b.length = 128) (hr : Has w A2 (ints .u8 b)) (h256 : ∀ y ∈ b, y < 256) (hnil : A2 = none → c = 0) :
    Calls Try.prog 18 #[dptr p, .int .i64 0, .slice A2 128 c] w fun e w' => e = .returned (.bool true) ∧ (∃ dp', StF base t p q r B dp' dq dr w' ∧ Iv B (i + 1) dp') ∧ KX base w w' := by
  obtain ⟨⟨gs, gn, cs, cn, A, cf, h1, hp, hgs, hgn, hA⟩, ⟨gs3, gn3, cs3, cn3, A4, cf3, h3⟩, ⟨gs2, gn2, cs2, cn2, A3, cf2, h2⟩, hb, ht⟩ := h
  by_cases hs : dp.stopped = true
  · refine (devWrite_stopped base p gs gn B cs cn A cf dp 0 A2 c w h1 (by omega) hs).mono ?_
    rintro e w' ⟨rfl, rfl⟩
    exact ⟨rfl, ⟨dp, ⟨⟨gs, gn, cs, cn, A, cf, h1, hp, hgs⟩, ⟨gs3, gn3, cs3, cn3, A4, cf3, h3⟩, ⟨gs2, gn2, cs2, cn2, A3, cf2, h2⟩, hb, ht⟩, iv.mono (Nat.le_succ _)⟩, KX.refl _⟩
  · have hs : dp.stopped = false := by simpa using hs
    refine (devWrite_m base p gs gn B cs cn A cf dp 0 A2 c b w h1 (by omega) hB.2 hs hn hr h256 (by have := iv.fl; omega) (by have := iv.wr; omega) (Nat.le_trans hb ht) hnil t hp hgn hA).mono ?_
    rintro e w' ⟨rfl, ⟨cs', cn', A', cf', h5⟩, km, bl⟩
    exact ⟨rfl, ⟨dp.wr 0 b, ⟨⟨gs, gn, cs', cn', A', cf', h5, hp, hgs⟩, ⟨gs3, gn3, cs3, cn3, A4, cf3, h3.km km (Nat.le_refl _)⟩, ⟨gs2, gn2, cs2, cn2, A3, cf2, RR.kd h2 km.kd⟩, hb, Nat.le_trans ht bl.size⟩, iv.wr' (by omega) hn h256 hs⟩, KX.kd km.kd bl⟩
theorem sFlushC {t q : Nat} {dp dq : D} (h : StF base t p q r B dp dq dr w) (iv : Iv B i dp) (hB : 1 ≤ B ∧ B ≤ 4000) (hi : i ≤ 1000) :
    Calls Try.prog 11 #[dptr p] w fun e w' => e = .returned (.tuple #[]) ∧ St base q r B dq dr w' ∧ KX base w w' := by
  obtain ⟨⟨gs, gn, cs, cn, A, cf, h1, hp, hgs⟩, ⟨gs3, gn3, cs3, cn3, A4, cf3, h3⟩, ⟨gs2, gn2, cs2, cn2, A3, cf2, h2⟩, hb, ht⟩ := h
  by_cases hs : dp.stopped = true
  · refine (devFlush_stopped p dp.stops dp.left w h1.c4 h1.c5 hs).mono ?_
    rintro e w' ⟨rfl, rfl⟩
    exact ⟨rfl, ⟨⟨gs3, gn3, cs3, cn3, A4, cf3, h3.mono hb⟩, ⟨gs2, gn2, cs2, cn2, A3, cf2, h2⟩, Nat.le_trans hb ht⟩, KX.refl _⟩
  · have hs : dp.stopped = false := by simpa using hs
    refine (devFlush_m base p gs gn B cs cn A cf dp w h1 hB.2 hs (by have := iv.fl; omega) (fun x hx => (iv.fx x hx).1) (Nat.le_trans hb ht) t hp hgs).mono ?_
    rintro e w' ⟨rfl, _, km, bl⟩
    exact ⟨rfl, ⟨⟨gs3, gn3, cs3, cn3, A4, cf3, (h3.km km (Nat.le_refl _)).mono hb⟩, ⟨gs2, gn2, cs2, cn2, A3, cf2, RR.kd h2 km.kd⟩, Nat.le_trans (Nat.le_trans hb ht) bl.size⟩, KX.kd km.kd bl⟩
end
end Go.Proofs.Ytnmldploafpbdaa
