/- The walks of the reference's Space. -/
import Derived.Test.YtnmldploafpbdaaDoorSpaceE
namespace Go.Proofs.YtnmldploafpbdaaDoor
open Go.RowKit
set_option linter.unusedVariables false

/-- A space in memory: at p, from f on, l tells which blocks are taken; its row is g. -/
def Spr (w : World) (p : Nat) (f : Int) (l : List Bool) (g c : Nat) : Prop :=
  Blk w p #[.int .i64 f, .slice (some ⟨g, 0, none⟩) l.length c] 55 ∧ p ≠ g ∧ w.ownsRow 0 4 1 (.slice (some ⟨g, 0, none⟩) l.length c) l.length (bools l)
section
variable {w w' : World} {p g c : Nat} {f : Int} {l : List Bool}
theorem Spr.later (h : Spr w p f l g c) (k : Later w w') : Spr w' p f l g c := ⟨h.1.later k, h.2.1, own_later h.2.2 k⟩
theorem Spr.at0 (h : Spr w p f l g c) : w.cell? ⟨p, 0, none⟩ = some (.int .i64 f) := h.1.cell 0 _ rfl
theorem Spr.at1 (h : Spr w p f l g c) : w.cell? ⟨p, 1, none⟩ = some (.slice (some ⟨g, 0, none⟩) l.length c) := h.1.cell 1 _ rfl
theorem Spr.cell (h : Spr w p f l g c) (i : Nat) (hi : i < l.length) : w.cell? ⟨g, i, none⟩ = some (.bool l[i]) := by
  rw [h.2.2.cellAt i (by omega), bools_get _ _ hi]
theorem Spr.cap (h : Spr w p f l g c) : l.length ≤ c := own_cap h.2.2
theorem Spr.capmax (h : Spr w p f l g c) : c ≤ 9223372036854775807 := own_capmax h.2.2
/-- A block turned. -/
theorem Spr.turn (h : Spr w p f l g c) (i : Nat) (b : Bool) : Spr (w.setCell ⟨g, i, none⟩ (.bool b)) p f (l.set i b) g c := by
  refine ⟨?_, h.2.1, ?_⟩
  · rw [List.length_set]; exact h.1.far h.2.1 _
  · have h3 := (h.2.2.stored i (.bool b)).1
    rw [List.length_set, show bools (l.set i b) = (bools l).set i (.bool b) by simp [bools, List.map_set]]
    exact h3
end
theorem Spr.glt {w : World} {p g c : Nat} {f : Int} {l : List Bool} (h : Spr w p f l g c) : g < w.heap.size := (h.2.2.lt g rfl).2
theorem Spr.frozen {w : World} {p g c : Nat} {f : Int} {l : List Bool} (h : Spr w p f l g c) (i : Nat) : w.frozen? ⟨g, i, none⟩ = false := h.2.2.frozenAt i
theorem Spr.drew {w : World} {p g c : Nat} {f : Int} {l : List Bool} (h : Spr w p f l g c) : Spr w.drew p f l g c := h
theorem Spr.far {w : World} {p g c : Nat} {f : Int} {l : List Bool} (h : Spr w p f l g c) {q : Addr} (h1 : p ≠ q.block) (h2 : g ≠ q.block) (v : Value) : Spr (w.setCell q v) p f l g c := by
  refine ⟨h.1.far h1 v, h.2.1, ?_⟩
  obtain ⟨h3, h4⟩ := h.2.2
  refine ⟨h3, ?_⟩
  rcases h4 with h4 | ⟨g', cap', cur, ha, hb, hg, hrest⟩
  · exact .inl h4
  · refine .inr ⟨g', cap', cur, ha, hb, ?_, hrest⟩
    injection ha with ha
    injection ha with ha
    injection ha with ha
    subst ha
    exact (Below.heap_setCell w q v g h2).trans hg
/-- What New makes. -/
def NewPostR (F : Int) (N : Nat) (w : World) (e : Ending) (w' : World) : Prop :=
  ∃ p g c, e = .returned (sptr p) ∧ Spr w' p F (List.replicate N false) g c ∧ Later w w' ∧ w.heap.size ≤ p ∧ w.heap.size ≤ g

set_option maxRecDepth 100000 in
set_option maxHeartbeats 2000000 in
theorem refNew_any (f n : Int) (w : World) :
    Calls Tryd.prog 12 #[.int .i64 f, .int .i64 n] w (NewPostR (max f 0) (newN n) w) := by
  obtain ⟨mf, hmf⟩ : ∃ x, max f 0 = x := ⟨_, rfl⟩
  obtain ⟨K, hK⟩ : ∃ x, newN n = x := ⟨_, rfl⟩
  have HK := Lib.hid (show K = (min (max n 0) 4000).toNat from hK.symm)
  rw [hmf, hK]
  have mk : ∀ N : Nat, N ≤ 4000 → ∀ W : World, (Instr.makeSlice 40 (.int .i64 (N : Int)) (.int .i64 (N : Int))).run Tryd.prog W = .ok (.slice (some ⟨W.heap.size, 0, none⟩) N N) (W.alloc (.cells (madeCells #[.bool false] N) 4)) := fun N h W => run_make_row' (P := Tryd.prog) 40 4 (.bool false) 1 Tryd.underlying40 info_bool rfl .i64 .i64 N (by omega) (by omega) W
  have fin : ∀ (N : Nat) (F : Int), N ≤ 4000 → NewPostR F N w (.returned (sptr (w.heap.size + 1))) ((w.alloc (.cells (madeCells #[.bool false] N) 4)).alloc (.cells #[.int .i64 F, .slice (some ⟨w.heap.size, 0, none⟩) N N] 55)) := by
    intro N F hN
    have B0 := Blk.new w (bools (List.replicate N false)).toArray 4 w.heap.size rfl
    have hmc : madeCells #[.bool false] N = (bools (List.replicate N false)).toArray := by
      apply Array.ext'
      simp [madeCells, bools, Nat.mod_one, List.map_const']
    rw [hmc]
    refine ⟨w.heap.size + 1, w.heap.size, N, rfl, ⟨?_, by omega, ?_⟩, (Later.new w _).alloc _, by omega, Nat.le_refl _⟩
    · rw [List.length_replicate]; exact Blk.new _ _ _ _ (by simp)
    · rw [List.length_replicate]
      exact (B0.later (Later.new _ _)).ownG (Nat.zero_le _) (by simp [bools]) (by unfold maxLen; omega)
  clear hK
  by_cases h1 : n < 0
  · have hmk : ∀ W : World, (Instr.makeSlice 40 (.int .i64 0) (.int .i64 0)).run Tryd.prog W = .ok (.slice (some ⟨W.heap.size, 0, none⟩) 0 0) (W.alloc (.cells (madeCells #[.bool false] 0) 4)) := mk 0 (by omega)
    rw [show K = 0 from by have := HK.out; omega]
    have hd : max n 0 = 0 := by omega
    have hF := fin 0
    clear mk fin
    by_cases hf : f < 0
    · rw [show mf = 0 from by omega]; clear hmf HK
      go_enter Tryd.func12, Tryd.ntmps12
      go_wp2_with fail
      all_goals try go_ret
      all_goals (first | exact hF 0 (by omega) | (exfalso; omega))
    · rw [show mf = f from by omega]; clear hmf HK
      go_enter Tryd.func12, Tryd.ntmps12
      go_wp2_with fail
      all_goals try go_ret
      all_goals (first | exact hF _ (by omega) | (exfalso; omega))
  · by_cases h2 : n ≤ 4000
    · obtain ⟨N, rfl⟩ := Int.eq_ofNat_of_zero_le (show 0 ≤ n by omega)
      have hmk : ∀ W : World, (Instr.makeSlice 40 (.int .i64 (N : Int)) (.int .i64 (N : Int))).run Tryd.prog W = .ok (.slice (some ⟨W.heap.size, 0, none⟩) N N) (W.alloc (.cells (madeCells #[.bool false] N) 4)) := mk N (by omega)
      rw [show K = N from by have := HK.out; omega]
      have hF := fin N
      clear mk fin
      by_cases hf : f < 0
      · rw [show mf = 0 from by omega]; clear hmf HK
        go_enter Tryd.func12, Tryd.ntmps12
        go_wp2_with fail
        all_goals try go_ret
        all_goals (first | exact hF 0 (by omega) | (exfalso; omega))
      · rw [show mf = f from by omega]; clear hmf HK
        go_enter Tryd.func12, Tryd.ntmps12
        go_wp2_with fail
        all_goals try go_ret
        all_goals (first | exact hF _ (by omega) | (exfalso; omega))
    · have hmk : ∀ W : World, (Instr.makeSlice 40 (.int .i64 4000) (.int .i64 4000)).run Tryd.prog W = .ok (.slice (some ⟨W.heap.size, 0, none⟩) 4000 4000) (W.alloc (.cells (madeCells #[.bool false] 4000) 4)) := mk 4000 (by omega)
      rw [show K = 4000 from by have := HK.out; omega]
      have hd : max n 0 = n := by omega
      have hd2 : min n 4000 = 4000 := by omega
      have hF := fin 4000
      clear mk fin
      by_cases hf : f < 0
      · rw [show mf = 0 from by omega]; clear hmf HK
        go_enter Tryd.func12, Tryd.ntmps12
        go_wp2_with fail
        all_goals try go_ret
        all_goals (first | exact hF 0 (by omega) | (exfalso; omega))
      · rw [show mf = f from by omega]; clear hmf HK
        go_enter Tryd.func12, Tryd.ntmps12
        go_wp2_with fail
        all_goals try go_ret
        all_goals (first | exact hF _ (by omega) | (exfalso; omega))

set_option maxRecDepth 100000 in
set_option maxHeartbeats 1000000 in
theorem refUsed19_any (p : Nat) (f : Int) (l : List Bool) (g c : Nat) (w : World) (h : Spr w p f l g c) (hl : l.length ≤ 4000) :
    Calls Tryd.prog 21 #[sptr p] w fun e w' => e = .returned (.int .i64 (usedL l)) ∧ w' = w := by
  have HS := Lib.hid h
  have hc := h.cap
  have a1 := h.at1
  obtain ⟨n, hn⟩ : ∃ n, n = l.length := ⟨_, rfl⟩
  rw [← hn] at a1 hc hl
  have HN := Lib.hid hn
  clear h hn
  go_enter Tryd.func21, Tryd.ntmps21
  go_wp2_with fail
  go_loopw [3, 4] (fun av iv wr => ∃ k : Nat, iv = .int .i64 k ∧ av = .int .i64 (usedL (l.take k)) ∧ k ≤ n ∧ wr = w) (fun _ i _ => n - (intOf i).toNat)
  case atStart => exact ⟨0, rfl, rfl, Nat.zero_le _, rfl⟩
  case round =>
    obtain ⟨k, rfl, rfl, hk, rfl⟩ := hrel
    by_cases hlt : k < n
    · have hcell := HS.out.cell k (by rw [← HN.out]; exact hlt)
      have hlt' := HN.out ▸ hlt
      have hu := usedL_snoc (l.take k) l[k]
      rw [← List.take_succ_eq_append_getElem hlt'] at hu
      have hub := usedL_le (l.take k)
      have hub2 : (l.take k).length ≤ k := by rw [List.length_take]; omega
      obtain ⟨u, hue⟩ : ∃ u, u = usedL (l.take k) := ⟨_, rfl⟩
      obtain ⟨b, hb⟩ : ∃ b, b = l[k] := ⟨_, rfl⟩
      rw [← hb] at hcell hu
      rw [← hue] at hu hub ⊢
      have HU := Lib.hid hu
      have hu4 : u ≤ 4000 := by omega
      clear hu hue hub hub2 hb
      cases b
      all_goals go_wp2_with fail
      · go_roundw
        case rel => exact ⟨k + 1, by go_num, by rw [HU.out]; rfl, by omega, trivial⟩
        case measure => simp [intOf]; omega
      · go_roundw
        case rel => exact ⟨k + 1, by go_num, by rw [HU.out]; go_num, by omega, trivial⟩
        case measure => simp [intOf]; omega
    · obtain rfl : k = n := by omega
      have hu : usedL (l.take k) = usedL l := by rw [HN.out, List.take_length]
      rw [hu]
      go_wp2_with fail
      go_ret
      exact ⟨rfl, rfl⟩

theorem turnS_out {f : Int} {l : List Bool} {a n : Int} {t : Bool} (h : ¬ insideS f l a n) : turnS f l a n t = none := if_neg (fun x => h ⟨x.1, x.2.1, x.2.2.1⟩)
theorem turnS_in {f : Int} {l : List Bool} {k m : Nat} {t : Bool} (hm : 1 ≤ m) (hk : k + m ≤ l.length) : turnS f l (f + (k : Int)) (m : Int) t = if idxB t (segL l k m) = -1 then some (setL l k m t) else none := by
  have hkk : (f + (k : Int) - f).toNat = k := by omega
  unfold turnS
  rw [hkk, Int.toNat_natCast]
  by_cases h : idxB t (segL l k m) = -1
  · rw [if_pos h, if_pos ⟨by omega, by omega, by omega, h⟩]
  · rw [if_neg h, if_neg (fun x => h x.2.2.2)]

set_option maxRecDepth 100000 in
set_option maxHeartbeats 2000000 in
theorem refAll_out (p : Nat) (f : Int) (l : List Bool) (g c : Nat) (a n : Int) (b : Bool) (w : World) (h : Spr w p f l g c) (hf : 0 ≤ f) (hf2 : f ≤ 1099511627776) (hl : l.length ≤ 4000) (ha : a ≤ 9223372036854775807) (ho : ¬ insideS f l a n) :
    Calls Tryd.prog 38 #[sptr p, ext a n, .bool b] w fun e w' => e = .returned (.bool false) ∧ Later w w' := by
  obtain ⟨len, hlen⟩ : ∃ n, n = l.length := ⟨_, rfl⟩
  have HL := Lib.hid (Later.new w (.cells #[.int .i64 a, .int .i64 n] 30))
  have BE := Blk.new w #[.int .i64 a, .int .i64 n] 30 w.heap.size rfl
  have h2 := h.later HL.out
  have a0 := h2.at0
  have a1 := h2.at1
  have b0 := BE.cell 0 _ rfl
  have b1 := BE.cell 1 _ rfl
  rw [← hlen] at a1
  obtain ⟨w1, hw1⟩ : ∃ x, w.alloc (.cells #[.int .i64 a, .int .i64 n] 30) = x := ⟨_, rfl⟩
  rw [hw1] at a0 a1 b0 b1 HL
  obtain ⟨ge, hge⟩ : ∃ x, w.heap.size = x := ⟨_, rfl⟩
  rw [hge] at b0 b1
  have ho : ¬ (1 ≤ n ∧ f ≤ a ∧ a - f + n ≤ len) := by rw [hlen]; exact ho
  rw [← hlen] at hl
  have HHO := Lib.hid ho
  clear h h2 BE hlen ho
  by_cases h1 : n < 1
  · have d1 : decide (n < 1) = true := by simp; omega
    clear hf hf2 hl ha h1
    go_enter Tryd.func38, Tryd.ntmps38
    go_wp2_with fail
    go_quiet (fail)
    go_wp2_with fail
    go_ret
    exact ⟨rfl, HL.out.drewN _⟩
  · have d1 : decide (n < 1) = false := by simp; omega
    by_cases h2 : (len : Int) < n
    · have d2 : decide ((len : Int) < n) = true := by simp; omega
      clear hf hf2 hl ha h1 h2
      go_enter Tryd.func38, Tryd.ntmps38
      go_wp2_with fail
      go_quiet (fail)
      go_wp2_with fail
      go_ret
      exact ⟨rfl, HL.out.drewN _⟩
    · have d2 : decide ((len : Int) < n) = false := by simp; omega
      by_cases h3 : a < f
      · have d3 : decide (a < f) = true := by simp; omega
        clear hf hf2 hl ha h1 h2 h3
        go_enter Tryd.func38, Tryd.ntmps38
        go_wp2_with fail
        go_quiet (fail)
        go_wp2_with fail
        go_ret
        exact ⟨rfl, HL.out.drewN _⟩
      · have d3 : decide (a < f) = false := by simp; omega
        obtain ⟨d, hd⟩ : ∃ d, a - f = d := ⟨_, rfl⟩
        have e1 : IntKind.i64.wrap d = d := IntWalk.i64_in _ ⟨by omega, by omega⟩
        obtain ⟨r, hr⟩ : ∃ r, (len : Int) - n = r := ⟨_, rfl⟩
        have e2 : IntKind.i64.wrap r = r := IntWalk.i64_in _ ⟨by omega, by omega⟩
        have d4 : decide (r < d) = true := by have := HHO.out; simp; omega
        clear hf hf2 hl ha h1 h2 h3
        go_enter Tryd.func38, Tryd.ntmps38
        go_wp2_with fail
        go_quiet (fail)
        go_wp2_with fail
        go_ret
        exact ⟨rfl, HL.out.drewN _⟩

def AllI (l : List Bool) (k m : Nat) (b : Bool) (w : World) (iv : Value) (wr : World) : Prop :=
  ∃ j : Nat, iv = .int .i64 j ∧ j ≤ m ∧ (∀ i, i < j → l[k + i]? = some b) ∧ Later w wr
theorem AllI.mk {l : List Bool} {k m : Nat} {b : Bool} {w wr : World} (a : Int) (j : Nat) (ha : a = (j : Int)) (hj : j ≤ m) (h1 : ∀ i, i < j → l[k + i]? = some b) (h2 : Later w wr) : AllI l k m b w (.int .i64 a) wr := by
  subst ha; exact ⟨j, rfl, hj, h1, h2⟩
theorem idxB_of {l : List Bool} {k m : Nat} {b : Bool} (hk : k + m ≤ l.length) (h : ∀ i, i < m → l[k + i]? = some b) : idxB (!b) (segL l k m) = -1 := by
  apply idxB_none
  intro j hj
  have hl := segL_len hk
  rw [segL_get hk j hj (by omega)]
  have := h j (by omega)
  rw [List.getElem?_eq_getElem (by omega)] at this
  injection this with this
  rw [this]; cases b <;> decide
theorem idxB_not {l : List Bool} {k m j : Nat} {b : Bool} (hk : k + m ≤ l.length) (hj : j < m) (h : l[k + j]? = some (!b)) : idxB (!b) (segL l k m) ≠ -1 := by
  intro hx
  have hl := segL_len hk
  have := idxB_inv hx j (by omega)
  rw [segL_get hk j (by omega) (by omega)] at this
  rw [List.getElem?_eq_getElem (by omega)] at h
  injection h with h
  exact this h

set_option maxRecDepth 100000 in
set_option maxHeartbeats 2000000 in
theorem refAll_in (p : Nat) (f : Int) (l : List Bool) (g c k m : Nat) (b : Bool) (w : World) (h : Spr w p f l g c) (hf : 0 ≤ f) (hf2 : f ≤ 1099511627776) (hl : l.length ≤ 4000) (hm : 1 ≤ m) (hk : k + m ≤ l.length) :
    Calls Tryd.prog 38 #[sptr p, ext (f + (k : Int)) m, .bool b] w fun e w' => ∃ r : Bool, e = .returned (.bool r) ∧ (r = true ↔ idxB (!b) (segL l k m) = -1) ∧ Later w w' := by
  have HK := Lib.hid hk
  obtain ⟨len, hlen⟩ : ∃ n, n = l.length := ⟨_, rfl⟩
  obtain ⟨a, ha⟩ : ∃ a, a = f + (k : Int) := ⟨_, rfl⟩
  rw [← ha]
  have HA := Lib.hid ha
  have HL := Lib.hid (Later.new w (.cells #[.int .i64 a, .int .i64 m] 30))
  have BE := Blk.new w #[.int .i64 a, .int .i64 m] 30 w.heap.size rfl
  have h2 := h.later HL.out
  have HSp := Lib.hid h2
  have HBE := Lib.hid BE
  have a0 := h2.at0
  have a1 := h2.at1
  have b0 := BE.cell 0 _ rfl
  have b1 := BE.cell 1 _ rfl
  rw [← hlen] at a1
  obtain ⟨w1, hw1⟩ : ∃ x, w.alloc (.cells #[.int .i64 a, .int .i64 m] 30) = x := ⟨_, rfl⟩
  rw [hw1] at a0 a1 b0 b1 HL HSp HBE
  obtain ⟨ge, hge⟩ : ∃ x, w.heap.size = x := ⟨_, rfl⟩
  rw [hge] at b0 b1 HBE
  have HLEN := Lib.hid hlen
  rw [← hlen] at hl hk
  have d1 : decide ((m : Int) < 1) = false := by simp; omega
  have d2 : decide (len < m) = false := by simp; omega
  have d3 : decide (a < f) = false := by simp; omega
  have e0 : IntKind.i64.wrap (a - f) = (k : Int) := by rw [IntWalk.i64_in _ ⟨by omega, by omega⟩]; omega
  obtain ⟨r, hr⟩ : ∃ r, (len : Int) - (m : Int) = r := ⟨_, rfl⟩
  have e1 : IntKind.i64.wrap r = r := IntWalk.i64_in _ ⟨by omega, by omega⟩
  have d4 : decide (r < (k : Int)) = false := by simp; omega
  have hk4 : k ≤ 4000 := by omega
  have hm4 : m ≤ 4000 := by omega
  have HKL := Lib.hid hk
  clear h h2 BE hlen ha hk
  go_enter Tryd.func38, Tryd.ntmps38
  go_wp2_with fail
  go_quiet (fail)
  go_wp2_with fail
  clear a0 a1 b0 b1 d1 d2 d3 d4 e1
  have HE0 := Lib.hid e0
  clear hr
  go_loopw [7] (fun iv wr => AllI l k m b w1 iv wr) (fun iv _ => m - (intOf iv).toNat)
  case atStart => exact AllI.mk 0 0 rfl (Nat.zero_le _) (fun i h => by omega) ((Later.refl _).drewN _)
  case round =>
    obtain ⟨j, rfl, hj, hall, hla⟩ := hrel
    have HALL := Lib.hid hall
    have HLA := Lib.hid hla
    have BE := HBE.out.later hla
    have SP := HSp.out.later hla
    have a0 := SP.at0
    have a1 := SP.at1
    rw [← HLEN.out] at a1
    have b0 := BE.cell 0 _ rfl
    have b1 := BE.cell 1 _ rfl
    have hc := SP.cap
    by_cases hlt : j < m
    · have hkj : k + j < l.length := by have := HK.out; omega
      have hcell := SP.cell (k + j) hkj
      obtain ⟨x, hx⟩ : ∃ x, x = l[k + j] := ⟨_, rfl⟩
      rw [← hx] at hcell
      have HX := Lib.hid (show l[k + j]? = some x by rw [List.getElem?_eq_getElem hkj, hx])
      have hkl : k + j < len := by rw [HLEN.out]; exact hkj
      have d5 : decide (j < m) = true := by simp; omega
      clear hx hkj hall hla BE SP hc
      by_cases hxb : x = b
      · subst hxb
        go_wp2_with fail
        go_quiet (fail)
        go_wp2_with fail
        go_roundw
        case rel =>
          refine AllI.mk _ (j + 1) (by go_num) (by omega) (fun i hi => ?_) (HLA.out.drewN _)
          by_cases h : i < j
          · exact HALL.out i h
          · rw [show i = j from by omega]; exact HX.out
        case measure => simp [intOf]; omega
      · have hxb2 : (!x == b) = true := by cases x <;> cases b <;> first | rfl | exact absurd rfl hxb
        go_wp2_with fail
        go_quiet (fail)
        go_wp2_with fail
        go_ret
        have hxn : l[k + j]? = some (!b) := by rw [HX.out]; cases x <;> cases b <;> first | rfl | exact absurd rfl hxb
        exact ⟨false, rfl, ⟨fun h => (by cases h), fun h => absurd h (idxB_not HK.out hlt hxn)⟩, HL.out.trans (HLA.out.drewN _)⟩
    · obtain rfl : j = m := by omega
      have d5 : decide (j < j) = false := by simp
      have hix := idxB_of HK.out hall
      have HIX := Lib.hid hix
      clear hall hla BE SP hc hix
      go_wp2_with fail
      go_ret
      exact ⟨true, rfl, ⟨fun _ => HIX.out, fun _ => rfl⟩, HL.out.trans HLA.out⟩
end Go.Proofs.YtnmldploafpbdaaDoor
