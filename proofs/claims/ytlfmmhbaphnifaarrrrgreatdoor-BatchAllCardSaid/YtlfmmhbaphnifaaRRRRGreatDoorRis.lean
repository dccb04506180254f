/- Rows of ints; slices.Clone, Sort, Compact, BinarySearch, Grow, Concat at them; batch.rising, Meet, Join, Rest. -/
import Derived.Test.YtlfmmhbaphnifaaRRRRGreatDoorCell
import Derived.Test.YtlfmmhbaphnifaaRRRRGreatDoorSetM
import Derived.Test.YtlfmmhbaphnifaaRRRRGreatDoorShelf
import Derived.Lib.AppendZeros
namespace Go.Proofs.YtlfmmhbaphnifaaRRRRGreatDoor
open Go.RowKit
set_option linter.unusedVariables false

def zin (l : List Int) : List Value := l.map (Value.int .i64)
theorem zin_length (l : List Int) : (zin l).length = l.length := List.length_map _
theorem zin_append (a b : List Int) : zin (a ++ b) = zin a ++ zin b := List.map_append
theorem zin_one (l : List Int) : ∀ u ∈ zin l, u.oneCell' = true := by
  intro u hu
  obtain ⟨n, _, rfl⟩ := List.mem_map.1 hu
  rfl
theorem zin_get (l : List Int) (i : Nat) (h : i < l.length) : (zin l)[i]? = some (.int .i64 l[i]) := by simp [zin, h]
theorem zin_ints (l : List Nat) : ints .i64 l = zin (l.map fun (n : Nat) => (n : Int)) := by simp [ints, zin, Function.comp_def]
theorem Has.zat {w : World} {A : Option Addr} {l : List Int} (h : Has w A (zin l)) (k : Nat) (hk : k < l.length) : ∃ b off, A = some ⟨b, off, none⟩ ∧ w.cell? ⟨b, off + k, none⟩ = some (.int .i64 l[k]) := by
  obtain ⟨b, off, hA, _, hc⟩ := h.at_ (k := k) (by rw [zin_length]; exact hk)
  refine ⟨b, off, hA, ?_⟩
  rw [hc]; simp [zin]
theorem info_z : (Tryz.prog.info? 3).map (fun i => (i.zero, i.size, i.bytes)) = some (some (.int .i64 0), 1, 8) := by kernel_rfl
/-- What a call gives that gives ints. -/
def IntsP (l : List Int) (w : World) (e : Ending) (w' : World) : Prop :=
  ∃ (A : Option Addr) (c : Nat), e = .returned (.slice A l.length c) ∧ Has w' A (zin l) ∧ l.length ≤ c ∧ c ≤ 9223372036854775807 ∧ (A = none → c = 0) ∧ Later w w'
theorem IntsP.mk {l : List Int} {w w' : World} {A : Option Addr} {n c base : Nat} (hn : n = l.length) (ho : w'.ownsRow base 3 1 (.slice A n c) n (zin l)) (hA : A = none → c = 0) (L : Later w w') : IntsP l w (.returned (.slice A n c)) w' := by
  subst hn
  exact ⟨A, c, rfl, Has.own ho, own_cap ho, own_capmax ho, hA, L⟩

/-- Ints in a block that may be written. -/
def CellsI (w : World) (g : Nat) (d : List Int) : Prop := g < w.heap.size ∧ ∀ j (h : j < d.length), w.cell? ⟨g, j, none⟩ = some (.int .i64 d[j]) ∧ w.frozen? ⟨g, j, none⟩ = false
theorem CellsI.has {w : World} {g : Nat} {d : List Int} (h : CellsI w g d) : Has w (some ⟨g, 0, none⟩) (zin d) := .inr ⟨g, 0, rfl, h.1, fun k v hv => by
  have hk : k < d.length := by
    have := (List.getElem?_eq_some_iff.1 hv).1
    rwa [zin_length] at this
  rw [Nat.zero_add, (h.2 k hk).1]
  rw [zin_get d k hk] at hv
  exact hv⟩
theorem cellsI_own {w : World} {base g n cap : Nat} {d : List Int} (h : w.ownsRow base 3 1 (.slice (some ⟨g, 0, none⟩) n cap) n (zin d)) (hg : g < w.heap.size) : CellsI w g d := by
  refine ⟨hg, fun j hj => ?_⟩
  have hlen : (zin d).length = n * 1 := h.1
  have h1 := h.cellAt j (by rw [zin_length] at hlen; omega)
  rw [zin_get d j hj] at h1
  exact ⟨h1, h.frozenAt j⟩
theorem CellsI.holds {w : World} {g : Nat} {d : List Int} (h : CellsI w g d) : Go.Sort.Holds (Value.int .i64) w g 0 d.toArray := by
  intro j hj
  have hj' : j < d.length := by simpa using hj
  rw [Nat.zero_add, getElem!_pos d.toArray j hj, List.getElem_toArray]
  exact h.2 j hj'
theorem CellsI.of {w : World} {g : Nat} {d : List Int} (hg : g < w.heap.size) (h : Go.Sort.Holds (Value.int .i64) w g 0 d.toArray) : CellsI w g d := by
  refine ⟨hg, fun j hj => ?_⟩
  have := h j (by simpa using hj)
  rwa [Nat.zero_add, getElem!_pos d.toArray j (by simpa using hj), List.getElem_toArray] at this
theorem below_put (w : World) (base g n : Nat) (d : Array Int) (os : Array Obj) (h : base ≤ g) (hg : g < w.heap.size) : Below base w (Go.Sort.grow (Go.Sort.putRow (Value.int .i64) (Go.Sort.ahead w n) g 0 d) os) := by
  refine ⟨rfl, rfl, rfl, ?_, ?_⟩
  · show w.heap.size ≤ ((w.heap.modify g _) ++ os).size
    rw [Array.size_append, Array.size_modify]; omega
  · intro k hk
    show ((w.heap.modify g _) ++ os)[k]? = w.heap[k]?
    rw [Array.getElem?_append_left (by rw [Array.size_modify]; omega), Array.getElem?_modify, if_neg (by omega)]
theorem below_put0 (w : World) (base g n : Nat) (d : Array Int) (h : base ≤ g) (hg : g < w.heap.size) : Below base w (Go.Sort.putRow (Value.int .i64) (Go.Sort.ahead w n) g 0 d) := by
  refine ⟨rfl, rfl, rfl, ?_, ?_⟩
  · show w.heap.size ≤ (w.heap.modify g _).size
    rw [Array.size_modify]; omega
  · intro k hk
    show (w.heap.modify g _)[k]? = w.heap[k]?
    rw [Array.getElem?_modify, if_neg (by omega)]
theorem put_lt (w : World) (g n : Nat) (d : Array Int) (os : Array Obj) (hg : g < w.heap.size) : g < (Go.Sort.grow (Go.Sort.putRow (Value.int .i64) (Go.Sort.ahead w n) g 0 d) os).heap.size := by
  show g < ((w.heap.modify g _) ++ os).size
  rw [Array.size_append, Array.size_modify]; omega
theorem put_lt0 (w : World) (g n : Nat) (d : Array Int) (hg : g < w.heap.size) : g < (Go.Sort.putRow (Value.int .i64) (Go.Sort.ahead w n) g 0 d).heap.size := by
  show g < (w.heap.modify g _).size
  rw [Array.size_modify]; omega

theorem cloneI_any (A : Option Addr) (n c : Nat) (zs : List Int) (w : World) (hn : n = zs.length) (hl : n ≤ 100000) (hr : Has w A (zin zs)) :
    Calls Tryz.prog 56 #[.slice A n c] w fun e w' => ∃ A' c', e = .returned (.slice A' n c') ∧ w'.ownsRow w.heap.size 3 1 (.slice A' n c') n (zin zs) ∧ (A' = none → c' = 0) ∧ Later w w' := by
  subst hn
  rcases A with _ | ad
  · have hz : zs = [] := by
      rcases hr with h | ⟨b, off, h, _⟩
      · simpa [zin] using h
      · cases h
    subst hz
    refine (Tryz.slices_Clone_int_nil 0 c w).mono ?_
    rintro e w' ⟨rfl, rfl⟩
    exact ⟨none, 0, rfl, ownG_nil _ _ _ _, fun _ => rfl, Later.refl _⟩
  · by_cases h0 : zs = []
    · subst h0
      refine (Tryz.slices_Clone_int_zero ad c w).mono ?_
      rintro e w' ⟨v', rfl, ho, _, hb⟩
      obtain ⟨A', c', rfl, hc⟩ := own_shape ho
      exact ⟨A', c', rfl, ho, hc, Later.of hb⟩
    · rcases hr with h | ⟨b, off, hA, _, hc⟩
      · exact absurd (by simpa [zin] using h) h0
      · injection hA with hA
        subst hA
        refine (Tryz.slices_Clone_int b off zs.length c zs w (Nat.le_refl _) (by omega) (fun j hj => by
          rw [hc j _ (zin_get zs j hj), List.getD_eq_getElem?_getD, List.getElem?_eq_getElem hj]; rfl)).mono ?_
        rintro e w' ⟨v', rfl, ho, _, hb⟩
        obtain ⟨A', c', rfl, hcc⟩ := own_shape ho
        rw [List.take_length] at ho
        exact ⟨A', c', rfl, ho, hcc, Later.of hb⟩
theorem sortI_any (g cap base : Nat) (d : List Int) (n : Nat) (w : World) (hn : n = d.length) (hg : base ≤ g) (hc : CellsI w g d) (hl : n ≤ 100000) :
    Calls Tryz.prog 57 #[.slice (some ⟨g, 0, none⟩) n cap] w fun e w' => e = .returned (.tuple #[]) ∧ CellsI w' g (d.mergeSort fun x y => decide (x ≤ y)) ∧ Below base w w' := by
  subst hn
  refine (Tryz.slices_Sort_int g 0 cap d w hc.holds hc.1 (by omega)).mono ?_
  rintro e w' ⟨rfl, n, os, rfl⟩
  refine ⟨rfl, CellsI.of (put_lt w g n _ os hc.1) ?_, below_put w base g n _ os hg hc.1⟩
  refine Go.Sort.holds_grow _ _ os g 0 _ (put_lt0 w g n _ hc.1) ?_
  exact Go.Sort.holds_putRow _ (Go.Sort.ahead w n) g 0 d.toArray _ hc.holds (by simp)
theorem compactI_any (g cap base : Nat) (d : List Int) (n : Nat) (w : World) (hn : n = d.length) (hg : base ≤ g) (hc : CellsI w g d) (hl : n ≤ 100000) (hcap : n ≤ cap) :
    Calls Tryz.prog 58 #[.slice (some ⟨g, 0, none⟩) n cap] w fun e w' => e = .returned (.slice (some ⟨g, 0, none⟩) (Lib.compact d).length cap) ∧ Has w' (some ⟨g, 0, none⟩) (zin (Lib.compact d)) ∧ Below base w w' := by
  subst hn
  have hlen : (Lib.compact d).length ≤ d.length := by
    unfold Lib.compact Lib.compactUpTo
    rw [List.length_map]
    refine Nat.le_trans (List.length_filter_le _ _) (by simp)
  refine (Tryz.slices_Compact_int g 0 cap d w hc.holds (by omega) hcap).mono ?_
  rintro e w' ⟨rfl, q, rfl⟩
  refine ⟨rfl, ?_, below_put0 w base g q _ hg hc.1⟩
  have h := CellsI.of (d := Lib.compact d ++ List.replicate (d.length - (Lib.compact d).length) 0) (put_lt0 w g q _ hc.1) (Go.Sort.holds_putRow _ (Go.Sort.ahead w q) g 0 d.toArray _ hc.holds (by simp; omega))
  have h2 := h.has.take (Lib.compact d).length
  unfold zin at h2
  rwa [← List.map_take, List.take_left] at h2
theorem rsg_nil : rsg [] = [] := List.eq_nil_of_length_eq_zero (by have := rsg_len []; simpa using this)

set_option maxRecDepth 100000 in
theorem rising_any (A : Option Addr) (n c : Nat) (zs : List Int) (w : World) (hn : n = zs.length) (hl : n ≤ 100000) (hr : Has w A (zin zs)) :
    Calls Tryz.prog 41 #[.slice A n c] w (IntsP (rsg zs) w) := by
  have HC := Lib.hid (cloneI_any A n c zs w hn hl hr)
  have HN := Lib.hid hn
  clear hn hr
  go_enter Tryz.func41, Tryz.ntmps41
  go_wp2_with fail
  refine HC.out.mono ?_
  rintro e w1 ⟨A', c', rfl, ho, hA, l1⟩
  have HL1 := Lib.hid l1
  have HA := Lib.hid hA
  clear HC
  by_cases h0 : zs = []
  · subst h0
    have hn0 : n = 0 := HN.out
    subst hn0
    have hcm := own_capmax ho
    clear ho l1
    go_wp2_with fail
    refine (Tryz.slices_Sort_int_none A' c' w1).mono ?_
    rintro e w2 ⟨rfl, rfl⟩
    go_wp2_with fail
    refine (Tryz.slices_Compact_int_empty A' c' _).mono ?_
    rintro e w2 ⟨rfl, rfl⟩
    go_wp2_with fail
    go_ret
    rw [rsg_nil]
    exact ⟨A', c', rfl, .inl rfl, Nat.zero_le _, hcm, HA.out, HL1.out⟩
  · have hp : 0 < n := by
      have := HN.out
      have := List.length_pos_iff.2 h0
      omega
    obtain ⟨g, cap, hv, hg, hlt⟩ := ho.form hp
    injection hv with hv1 _ hv2
    subst hv1 hv2
    have hcap := own_cap ho
    have hcm := own_capmax ho
    have HS := Lib.hid (sortI_any g c' w.heap.size zs n w1 HN.out hg (cellsI_own ho hlt) hl)
    have HG := Lib.hid hg
    clear ho l1 hg hlt hA h0
    go_wp2_with fail
    refine HS.out.mono ?_
    rintro e w2 ⟨rfl, hc2, b2⟩
    have HK := Lib.hid (compactI_any g c' w.heap.size _ n w2 (by rw [List.length_mergeSort]; exact HN.out) HG.out hc2 hl hcap)
    have HB2 := Lib.hid (HL1.out.below.trans b2)
    clear hc2 b2 HS
    go_wp2_with fail
    refine HK.out.mono ?_
    rintro e w3 ⟨rfl, hh, b3⟩
    have HR := Lib.hid (show IntsP (rsg zs) w (.returned (.slice (some ⟨g, 0, none⟩) (rsg zs).length c')) w3 from ⟨_, _, rfl, hh, by have := rsg_len zs; have := HN.out; omega, hcm, (fun h => by cases h), Later.of (HB2.out.trans b3)⟩)
    unfold rsg at HR
    obtain ⟨m, hm⟩ : ∃ m, (Lib.compact (zs.mergeSort fun x y => decide (x ≤ y))).length = m := ⟨_, rfl⟩
    rw [hm] at HR ⊢
    clear hh b3 HK hm
    go_wp2_with fail
    go_ret
    exact HR.out

/-- slices.BinarySearch: is it there? -/
theorem searchI_any (A : Option Addr) (n c : Nat) (zs : List Int) (x : Int) (w : World) (hn : n = zs.length) (hl : n ≤ 100000) (hr : Has w A (zin zs)) (hs : SInc zs) :
    Calls Tryz.prog 42 #[.slice A n c, .int .i64 x] w fun e w' => (∃ k : Int, e = .returned (.tuple #[.int .i64 k, .bool (decide (x ∈ zs))])) ∧ Later w w' := by
  subst hn
  by_cases h0 : zs = []
  · subst h0
    refine (Tryz.slices_BinarySearch_int_empty A c x w).mono ?_
    rintro e w' ⟨rfl, rfl⟩
    exact ⟨⟨0, by simp⟩, Later.refl _⟩
  · rcases hr with h | ⟨b, off, rfl, _, hc⟩
    · exact absurd (by simpa [zin] using h) h0
    · refine (Tryz.slices_BinarySearch_int b off zs.length c zs x w (Nat.le_refl _) (by omega) (fun j hj => by
        rw [hc j _ (zin_get zs j hj), List.getD_eq_getElem?_getD, List.getElem?_eq_getElem hj]; rfl) (by rw [List.take_length]; exact sinc_le hs)).mono ?_
      rintro e w' ⟨rfl, q, rfl⟩
      refine ⟨⟨((zs.take zs.length).countP (· < x) : Nat), ?_⟩, (Later.refl w).drewN q⟩
      rw [List.take_length, show zs.contains x = decide (x ∈ zs) by rw [Bool.eq_iff_iff, List.contains_iff_mem, decide_eq_true_iff]]
end Go.Proofs.YtlfmmhbaphnifaaRRRRGreatDoor
