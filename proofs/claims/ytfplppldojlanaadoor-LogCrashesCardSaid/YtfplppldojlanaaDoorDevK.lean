/- The walks of mixed and kept. -/
import Derived.Test.YtfplppldojlanaaDoorDevF
import Derived.Deep.RegionHeld3
namespace Go.Proofs.YtfplppldojlanaaDoor
open Go.RowKit
set_option linter.unusedVariables false

/-- The first k bytes of b, the others of old. -/
def mixK (at_ : Int) : Nat := (min (max at_ 0) 128).toNat
def mixL (b old : List Nat) (at_ : Int) : List Nat := b.take (mixK at_) ++ old.drop (mixK at_)
theorem mixK_le (at_ : Int) : mixK at_ ≤ 128 := by unfold mixK; omega
theorem mix_len {b old : List Nat} {k : Nat} (hb : b.length = 128) (ho : old.length = 128) (hk : k ≤ 128) : (b.take k ++ old.drop k).length = 128 := by simp; omega
/-- A block is told. -/
def TellB (l : List Nat) (w : World) (e : Ending) (w' : World) : Prop := ∃ v, e = .returned v ∧ BV w' v l ∧ Later w w' ∧ ∃ A c, v = .slice A 128 c

set_option maxRecDepth 100000 in
set_option maxHeartbeats 4000000 in
theorem mixed_any (v1 v2 : Value) (b old : List Nat) (at_ : Int) (w : World) (h1 : BV w v1 b) (h2 : BV w v2 old) :
    Calls Tryd.prog 28 #[v1, v2, .int .i64 at_] w (TellB (mixL b old at_) w) := by
  have hb := h1.1
  have ho := h2.1
  have HL1 := Lib.hid h1.2.1
  have HL2 := Lib.hid h2.2.1
  obtain ⟨b1, o1, c1, rfl, p1, q1, r1⟩ := h1.has
  obtain ⟨b2, o2, c2, rfl, p2, q2, r2⟩ := h2.has
  have HR1 := Lib.hid r1
  have HR2 := Lib.hid r2
  have hk := mixK_le at_
  obtain ⟨k, hkk⟩ : ∃ k, k = mixK at_ := ⟨_, rfl⟩
  unfold mixL
  rw [← hkk] at hk ⊢
  have HB := Lib.hid hb
  have HO := Lib.hid ho
  have HC := Lib.hid (fun (W : World) (L : Later w W) (gl cl : Nat) (A2 : Option Addr) (cc : Nat) (hcl : 2 ≤ cl) (k0 : W.cell? ⟨gl, 0, none⟩ = some (.slice (some ⟨b1, o1, none⟩) k c1)) (k1 : W.cell? ⟨gl, 1, none⟩ = some (.slice A2 (128 - k) cc)) (hA : A2 = some ⟨b2, o2 + k, none⟩ ∨ (k = 128 ∧ ∃ x, A2 = some x)) =>
    concat2_any gl cl (some ⟨b1, o1, none⟩) A2 k (128 - k) c1 cc (b.take k) (old.drop k) W (by rw [List.length_take]; omega) (by rw [List.length_drop]; omega) (by omega) (by omega) hcl k0 k1
      (by rw [← ints_take]; exact (HR1.out.later L).take k)
      (by
        rcases hA with rfl | ⟨rfl, x, rfl⟩
        · rw [show ints .u8 (old.drop k) = (ints .u8 old).drop k from by simp [ints, List.map_drop]]; exact (HR2.out.later L).drop k
        · rw [List.drop_of_length_le (by rw [HO.out]; exact Nat.le_refl _)]; exact Has.nil_)
      (by intro h; cases h) (by rcases hA with rfl | ⟨_, x, rfl⟩ <;> intro h <;> cases h))
  have HLEN := Lib.hid (mix_len hb ho hk)
  have H256 := Lib.hid (show ∀ x ∈ b.take k ++ old.drop k, x < 256 from fun x hx => by
    rcases List.mem_append.1 hx with hx | hx
    · exact HL1.out x (List.mem_of_mem_take hx)
    · exact HL2.out x (List.mem_of_mem_drop hx))
  clear h1 h2 r1 r2 hb ho
  have hi1 : (k : Int) ≤ (c1 : Int) := by omega
  have hi2 : (k : Int) ≤ 128 := by omega
  have hi3 : (k : Int) ≤ (c2 : Int) := by omega
  have hi4 : (128 : Int) - (k : Int) = ((128 - k : Nat) : Int) := by omega
  have hi5 : (c2 : Int) - (k : Int) = ((c2 - k : Nat) : Int) := by omega
  have hi6 : (128 : Int) ≤ (c2 : Int) := by omega
  have hk0 : k = (min (max at_ 0) 128).toNat := hkk
  clear hkk
  by_cases ha : at_ < 0
  · obtain rfl : k = 0 := by omega
    have hd : max at_ 0 = 0 := by omega
    have hc0 : ¬ c2 = 0 := by omega
    clear hk0
    go_enter Tryd.func28, Tryd.ntmps28
    go_wp2_with fail
    have lz := (Later.refl w).drew
    go_region_held3 (fun _ => True) (exact trivial) (first | (go_at_call 44; refine (HC.out _ (lz.alloc _) _ 2 _ _ (Nat.le_refl _) (CellIs.new _ _ _ _ 0 _ rfl rfl) (CellIs.new _ _ _ _ 1 _ rfl rfl) (by first | exact .inl rfl | exact .inr ⟨by omega, _, rfl⟩)).mono ?_; rintro e wX ⟨XA, xc, rfl, ho, lX⟩; have lz := (lz.alloc _).trans lX; rw [HLEN.out] at ho ⊢))
    all_goals go_wp2_with fail
    all_goals go_ret
    all_goals exact ⟨_, rfl, BV.own ho H256.out (own_capmax ho), lz, _, _, rfl⟩
  · have hd : max at_ 0 = at_ := by omega
    by_cases hb : at_ ≤ 128
    · obtain rfl : at_ = (k : Int) := by omega
      have hd2 : min (k : Int) 128 = (k : Int) := by omega
      clear hk0 ha hb
      by_cases hck : c2 = k
      · obtain rfl : k = 128 := by omega
        subst hck
        have hj1 : (128 : Int) ≤ (c1 : Int) := by omega
        go_enter Tryd.func28, Tryd.ntmps28
        go_wp2_with fail
        have lz := (Later.refl w).drew
        go_region_held3 (fun _ => True) (exact trivial) (first | (go_at_call 44; refine (HC.out _ (lz.alloc _) _ 2 _ _ (Nat.le_refl _) (CellIs.new _ _ _ _ 0 _ rfl rfl) (CellIs.new _ _ _ _ 1 _ rfl rfl) (by first | exact .inl rfl | exact .inr ⟨by omega, _, rfl⟩)).mono ?_; rintro e wX ⟨XA, xc, rfl, ho, lX⟩; have lz := (lz.alloc _).trans lX; rw [HLEN.out] at ho ⊢))
        all_goals go_wp2_with fail
        all_goals go_ret
        all_goals exact ⟨_, rfl, BV.own ho H256.out (own_capmax ho), lz, _, _, rfl⟩
      · have hck2 : ¬ c2 = k := hck
        go_enter Tryd.func28, Tryd.ntmps28
        go_wp2_with fail
        have lz := (Later.refl w).drew
        go_region_held3 (fun _ => True) (exact trivial) (first | (go_at_call 44; refine (HC.out _ (lz.alloc _) _ 2 _ _ (Nat.le_refl _) (CellIs.new _ _ _ _ 0 _ rfl rfl) (CellIs.new _ _ _ _ 1 _ rfl rfl) (by first | exact .inl rfl | exact .inr ⟨by omega, _, rfl⟩)).mono ?_; rintro e wX ⟨XA, xc, rfl, ho, lX⟩; have lz := (lz.alloc _).trans lX; rw [HLEN.out] at ho ⊢))
        all_goals go_wp2_with fail
        all_goals go_ret
        all_goals exact ⟨_, rfl, BV.own ho H256.out (own_capmax ho), lz, _, _, rfl⟩
    · obtain rfl : k = 128 := by omega
      have hj1 : (128 : Int) ≤ (c1 : Int) := by omega
      have hd2 : min at_ 128 = 128 := by omega
      clear hk0
      by_cases hck : c2 = 128
      · subst hck
        go_enter Tryd.func28, Tryd.ntmps28
        go_wp2_with fail
        have lz := (Later.refl w).drew
        go_region_held3 (fun _ => True) (exact trivial) (first | (go_at_call 44; refine (HC.out _ (lz.alloc _) _ 2 _ _ (Nat.le_refl _) (CellIs.new _ _ _ _ 0 _ rfl rfl) (CellIs.new _ _ _ _ 1 _ rfl rfl) (by first | exact .inl rfl | exact .inr ⟨by omega, _, rfl⟩)).mono ?_; rintro e wX ⟨XA, xc, rfl, ho, lX⟩; have lz := (lz.alloc _).trans lX; rw [HLEN.out] at ho ⊢))
        all_goals go_wp2_with fail
        all_goals go_ret
        all_goals exact ⟨_, rfl, BV.own ho H256.out (own_capmax ho), lz, _, _, rfl⟩
      · have hck2 : ¬ c2 = 128 := hck
        go_enter Tryd.func28, Tryd.ntmps28
        go_wp2_with fail
        have lz := (Later.refl w).drew
        go_region_held3 (fun _ => True) (exact trivial) (first | (go_at_call 44; refine (HC.out _ (lz.alloc _) _ 2 _ _ (Nat.le_refl _) (CellIs.new _ _ _ _ 0 _ rfl rfl) (CellIs.new _ _ _ _ 1 _ rfl rfl) (by first | exact .inl rfl | exact .inr ⟨by omega, _, rfl⟩)).mono ?_; rintro e wX ⟨XA, xc, rfl, ho, lX⟩; have lz := (lz.alloc _).trans lX; rw [HLEN.out] at ho ⊢))
        all_goals go_wp2_with fail
        all_goals go_ret
        all_goals exact ⟨_, rfl, BV.own ho H256.out (own_capmax ho), lz, _, _, rfl⟩

/-- Is write i among those that keep names? -/
def keptB (keep : List Nat) (i : Nat) : Bool := decide (i / 8 < keep.length) && (keep.getD (i / 8) 0 / 2 ^ (i % 8) % 2 == 1)
set_option maxRecDepth 100000 in
set_option maxHeartbeats 1000000 in
theorem kept_any (A : Option Addr) (n c : Nat) (keep : List Nat) (i : Nat) (w : World) (hn : n = keep.length) (hn2 : n ≤ 1000) (hi : i ≤ 100000) (hr : Has w A (ints .u8 keep)) (h256 : ∀ x ∈ keep, x < 256) :
    Calls Tryd.prog 29 #[.slice A n c, .int .i64 i] w fun e w' => e = .returned (.bool (keptB keep i)) ∧ w' = w := by
  obtain ⟨q, hq⟩ : ∃ q, i / 8 = q := ⟨_, rfl⟩
  obtain ⟨r, hr8⟩ : ∃ r, i % 8 = r := ⟨_, rfl⟩
  have e1 : Int.tdiv (i : Int) 8 = (q : Int) := by rw [← hq]; exact (Int.ofNat_tdiv i 8).symm
  have e2 : (i : Int) / 8 = (q : Int) := by omega
  have e3 : Int.tmod (i : Int) 8 = (r : Int) := by rw [← hr8]; exact (Int.ofNat_tmod i 8).symm
  have e4 : (i : Int) % 8 = (r : Int) := by omega
  have hr7 : r ≤ 7 := by omega
  have hk : keptB keep i = (decide (q < n) && (keep.getD q 0 / 2 ^ r % 2 == 1)) := by unfold keptB; rw [hq, hr8, hn]
  have HK := Lib.hid hk
  by_cases hlt : q < n
  · have hql : q < keep.length := by omega
    obtain ⟨ab, off, rfl, hcell⟩ : ∃ ab off, A = some ⟨ab, off, none⟩ ∧ w.cell? ⟨ab, off + q, none⟩ = some (.int .u8 (keep[q] : Int)) := by
      rcases hr with h | ⟨b', o', h1, _, h3⟩
      · have := congrArg List.length h
        rw [ints_length] at this
        rw [show keep.length = 0 from this] at hql
        omega
      · exact ⟨b', o', h1, h3 q _ (ints_get _ _ _ hql)⟩
    have hx256 := h256 _ (List.getElem_mem hql)
    obtain ⟨x, hx⟩ : ∃ x, x = keep[q] := ⟨_, rfl⟩
    rw [← hx] at hcell hx256
    have hgd : keep.getD q 0 = x := by rw [List.getD, List.getElem?_eq_getElem hql, hx]; rfl
    have HGD := Lib.hid hgd
    have d1 : decide (q < n) = true := by simpa using hlt
    clear hk hr h256 hx hgd hq hr8
    go_enter Tryd.func29, Tryd.ntmps29
    go_wp2_with fail
    go_ret
    have hy : (x : Int) / 2 ^ r = ((x / 2 ^ r : Nat) : Int) := by simp
    have hyl : x / 2 ^ r < 256 := Nat.lt_of_le_of_lt (Nat.div_le_self _ _) hx256
    have hb : bits .and .u8 ((x : Int) / 2 ^ r) 1 = ((x / 2 ^ r % 2 : Nat) : Int) := by
      rw [hy]
      have := bits_mask .u8 8 (by decide) wraps_u8 1 (by decide) ((x / 2 ^ r : Nat) : Int) (Int.natCast_nonneg _) (by omega)
      simpa using this
    have hq2 : (bits .and .u8 ((x : Int) / 2 ^ r) 1 == 1) = (x / 2 ^ r % 2 == 1) := by
      rw [hb, Bool.eq_iff_iff]
      simp
      omega
    refine ⟨?_, rfl⟩
    rw [HK.out, HGD.out, d1, Bool.true_and, ← hq2]
    rfl
  · have d1 : decide (q < n) = false := by simpa using hlt
    clear hk hr h256 hq hr8
    go_enter Tryd.func29, Tryd.ntmps29
    go_wp2_with fail
    go_ret
    exact ⟨by rw [HK.out, decide_eq_false hlt]; rfl, rfl⟩
end Go.Proofs.YtfplppldojlanaaDoor
