
import Derived.Test.YtkdpjocglfephaaDoorBatR
import Derived.Test.YtkdpjocglfephaaDoorPredB
import Derived.Test.YtkdpjocglfephaaDoorRefOfP
import Derived.Test.YtkdpjocglfephaaDoorBase
import Derived.Test.YtkdpjocglfephaaDoorZoneM
import Derived.WalkKit
import Derived.LaidEql
import Derived.Stop.Asserts
import Derived.Stop.IfaceNil
import Derived.RowKitTokens
import Derived.Laws.OwnMore
import Derived.Laws.BytesArg
import Derived.Laws.Rows
import Derived.Deep.AppendLies
import Derived.Deep.Draws
import Derived.Test.YtkdpjocglfephaaDoorChecked
import Derived.Deep.OwnRows
import Derived.Lib.Hide
import Derived.Deep.Quiet
import Derived.Laws.AppendOwnNone
import Derived.Lib.Strings
import Derived.Outline
import Derived.WalkLawsBesides
import Derived.WalkSpells
import Derived.PlainAid
import Derived.Deep.QuietTactic
import Derived.BigQuiet
import Derived.RegionTactic
import Derived.BigRegion
import Derived.Handy
import Derived.Laws.BitsAllLaws
import Derived.Deep.RegionWith
import Derived.Lib.AppendStr
import Derived.Deep.RegionLaw
import Derived.Maps.AppendAt
import Derived.OpenShut
import Derived.WideShapes
import Derived.ChangeArms
import Derived.Deep.Slices
import Derived.Sort.Grow
import Derived.OrdersHeld
import Derived.Laws.BitsLemmas
import Derived.Laws.Bits64
import Derived.WalkSmall
import Derived.Lib.Bytealg
import Derived.Deep.SlicePairs
import Derived.Deep.RegionHeld3
import Derived.Test.YtkdpjocglfephaaDoorShelf
import Derived.Deep.CutBlock
import Derived.Deep.CutRange
import Derived.Shelf.Abstract
/- The mathematics of PredAll. -/




namespace Go.Proofs.YtkdpjocglfephaaDoor
open Go.RowKit
set_option linter.unusedVariables false

theorem snoc_ind {P : List Val3 → Prop} (h0 : P []) (h1 : ∀ l x, P l → P (l ++ [x])) (l : List Val3) : P l := by
  have key : ∀ r : List Val3, P r.reverse := by
    intro r
    induction r with
    | nil => exact h0
    | cons x r ih => rw [List.reverse_cons]; exact h1 _ x ih
  have := key l.reverse
  rwa [List.reverse_reverse] at this
theorem someV_nil {l : List Val3} : someV l = [] ↔ ∀ x ∈ l, x.1 = 0 := by
  unfold someV
  rw [List.filter_eq_nil_iff]
  simp
theorem low_least (l : List Val3) : leastV 1 (someV l) = lowZs none3 l := by
  refine snoc_ind (P := fun l => leastV 1 (someV l) = lowZs none3 l) rfl (fun l x ih => ?_) l
  rw [someV_snoc, lowZs_snoc]
  unfold lowZ
  by_cases e : x.1 = 0
  · rw [if_pos e, if_pos e, List.append_nil, ih]
  · rw [if_neg e, if_neg e, leastV_snoc, ih]
    have h1 := (lowZs_is l none3).2.1
    have h2 := @someV_nil l
    have h3 : someV l = [] ↔ (lowZs none3 l).1 = 0 := by
      rw [h1, h2]
      exact ⟨fun h => ⟨rfl, h⟩, fun h => h.2⟩
    rw [Int.one_mul]
    by_cases c : someV l = [] ∨ cmp3 x (lowZs none3 l) < 0
    · rw [if_pos c, if_pos (c.imp h3.1 id)]
    · rw [if_neg c, if_neg (fun h => c (h.imp h3.2 id))]
theorem top_least (l : List Val3) : leastV (-1) (someV l) = topZs none3 l := by
  refine snoc_ind (P := fun l => leastV (-1) (someV l) = topZs none3 l) rfl (fun l x ih => ?_) l
  rw [someV_snoc, topZs_snoc]
  unfold topZ
  by_cases e : x.1 = 0
  · rw [if_pos e, if_pos e, List.append_nil, ih]
  · rw [if_neg e, if_neg e, leastV_snoc, ih]
    have h1 := (topZs_is l none3).2.1
    have h2 := @someV_nil l
    have h3 : someV l = [] ↔ (topZs none3 l).1 = 0 := by
      rw [h1, h2]
      exact ⟨fun h => ⟨rfl, h⟩, fun h => h.2⟩
    have h4 : -1 * cmp3 x (topZs none3 l) < 0 ↔ 0 < cmp3 x (topZs none3 l) := by omega
    by_cases c : someV l = [] ∨ -1 * cmp3 x (topZs none3 l) < 0
    · rw [if_pos c, if_pos (c.imp h3.1 h4.1)]
    · rw [if_neg c, if_neg (fun h => c (h.imp h3.2 h4.2))]
theorem nulls_some (l : List Val3) : (l.length : Int) - ((someV l).length : Int) = (nullsZ l : Int) := by
  refine snoc_ind (P := fun l => (l.length : Int) - ((someV l).length : Int) = (nullsZ l : Int)) rfl (fun l x ih => ?_) l
  rw [someV_snoc, nullsZ_snoc, List.length_append, List.length_append, List.length_singleton]
  by_cases e : x.1 = 0
  · rw [if_pos e, if_pos e, List.length_nil]; omega
  · rw [if_neg e, if_neg e, List.length_singleton]; omega
/-- A column's zone. -/
def zoneOf (l : List Val3) : Zn := ⟨nullsZ l, lowZs none3 l, topZs none3 l⟩
theorem zoneOf_eq (l : List Val3) : zcells ((l.length : Int) - ((someV l).length : Int)) (leastV 1 (someV l)) (leastV (-1) (someV l)) = encZ (zoneOf l) := by
  rw [nulls_some, low_least, top_least]; rfl
/-- What passes can. -/
theorem says_pass {op : Int} {t v : Val3} (h : saysT op t v = 2) : passZ v op t = true := by
  unfold saysT at h
  unfold passZ
  by_cases h7 : op = 7
  · rw [if_pos h7] at h ⊢
    rcases hb : decide (v.1 = 0) with _ | _
    · rw [hb] at h; cases h
    · rfl
  · rw [if_neg h7] at h ⊢
    by_cases h8 : op = 8
    · rw [if_pos h8] at h ⊢
      by_cases hv : v.1 = 0
      · rw [decide_eq_true hv] at h; cases h
      · simp [hv]
    · rw [if_neg h8] at h ⊢
      by_cases h0 : v.1 = 0 ∨ t.1 = 0
      · rw [if_pos h0] at h; cases h
      · rw [if_neg h0] at h ⊢
        rcases hb : between op (cmp3 v t) (cmp3 v t) with _ | _
        · rw [hb] at h; cases h
        · rfl
theorem can_of {cols : List Col3} {cs : List (List Val3)} {N i : Nat} {t : Tst} (hN : ∀ c ∈ cs, c.length = N) (hi : i < N) (h : oneT cols (rowAt cs i) t = 2) : canT cols N (cs.map zoneOf) t = true := by
  unfold canT
  rcases hn : t.not_ with _ | _
  · simp only [Bool.false_eq_true, if_false]
    unfold oneT at h
    rw [hn] at h
    simp only [Bool.false_eq_true, if_false] at h
    rcases hf : findC cols t.nm with _ | k
    · rfl
    · rw [hf] at h
      simp only [Option.bind_some] at h ⊢
      rcases hk : cs[k]? with _ | c
      · rw [List.getElem?_map, hk]; rfl
      · have hc : c ∈ cs := List.mem_of_getElem? hk
        have hl := hN c hc
        rw [List.getElem?_map, hk]
        unfold rowAt at h
        rw [List.getElem?_map, hk] at h
        simp only [Option.map_some] at h ⊢
        have hp := says_pass h
        have hm : c.getD i (0, 0, ⟨#[]⟩) ∈ c := by
          rw [List.getD_eq_getElem?_getD, List.getElem?_eq_getElem (by omega)]
          exact List.getElem_mem _
        have := canZ_all hm hp
        rw [hl] at this
        exact this
  · rfl
theorem can_go {cols : List Col3} {row : List Val3} {f : Tst → Bool} (hf : ∀ t, oneT cols row t = 2 → f t = true) :
    ∀ (r : List Tst) (b : Bool) (a g : Int) (gc : Bool), a ≤ 2 → g ≤ 2 → (g = 2 → gc = true) →
      max (r.foldl (stepT cols row) (b, a, g)).2.1 (r.foldl (stepT cols row) (b, a, g)).2.2 = 2 → a = 2 ∨ canGo f (!b) gc r = true
  | [], b, a, g, gc, ha, hg, hgc, h => by
    simp only [List.foldl_nil] at h
    by_cases e : a = 2
    · exact .inl e
    · exact .inr (hgc (by omega))
  | t :: r, b, a, g, gc, ha, hg, hgc, h => by
    have h1 := oneT_in cols row t
    have h2 := hf t
    have hst : stepT cols row (b, a, g) t = if b && t.or_ then (true, max a g, min 2 (oneT cols row t)) else (true, a, min g (oneT cols row t)) := rfl
    rw [List.foldl_cons, hst] at h
    rcases hb : (b && t.or_) with _ | _
    · rw [if_neg (by rw [hb]; decide)] at h
      have ih := can_go hf r true a (min g (oneT cols row t)) (gc && f t) ha (by omega) (fun e => by rw [hgc (by omega), h2 (by omega)]; rfl) h
      refine ih.imp id fun k => ?_
      unfold canGo
      rw [Bool.not_not, hb]
      exact k
    · rw [if_pos hb] at h
      have ih := can_go hf r true (max a g) (min 2 (oneT cols row t)) (f t) (by omega) (by omega) (fun e => h2 (by omega)) h
      by_cases e : a = 2
      · exact .inl e
      · refine .inr ?_
        unfold canGo
        rw [Bool.not_not, hb]
        simp only [if_true]
        rcases hgg : gc with _ | _
        · rcases ih with ih | ih
          · have : g = 2 := by omega
            rw [hgc this] at hgg; cases hgg
          · exact ih
        · rfl
theorem can_sound {cols : List Col3} {cs : List (List Val3)} {N i : Nat} {l : List Tst} (hN : ∀ c ∈ cs, c.length = N) (hi : i < N) (h : rowT cols l (rowAt cs i) = 2) : predCan cols N (cs.map zoneOf) l = true := by
  have := can_go (f := canT cols N (cs.map zoneOf)) (fun t ht => can_of hN hi ht) l false 0 2 true (by omega) (by omega) (fun _ => rfl) h
  rcases this with h | h
  · cases h
  · exact h
/-- Tests that are right. -/
theorem check2_zero {cols : List Col3} : ∀ {l : List Tst}, check2 cols l = 0 → ∀ t ∈ l, ∃ k, findC cols t.nm = some k
  | [], _, t, ht => by cases ht
  | t :: r, h, u, hu => by
    unfold check2 at h
    rcases hf : findC cols t.nm with _ | k
    · rw [hf] at h; cases h
    · rw [hf] at h
      dsimp only at h
      by_cases hm : meetsT (cols.getD k (0, ⟨#[]⟩, 0)).2.2 t = true
      · rw [if_pos hm] at h
        rcases List.mem_cons.1 hu with rfl | hu
        · exact ⟨k, hf⟩
        · exact check2_zero h u hu
      · rw [if_neg hm] at h; cases h
theorem checkT_zero {cols : List Col3} {l : List Tst} (h : checkT cols l = 0) : ∀ t ∈ l, (1 ≤ t.op ∧ t.op ≤ 8) ∧ ∃ k, findC cols t.nm = some k ∧ k < cols.length := by
  unfold checkT at h
  by_cases h8 : 8 < l.length
  · rw [if_pos h8] at h; cases h
  · rw [if_neg h8] at h
    by_cases ha : l.all (fun t => decide (OkT t)) = true
    · rw [if_pos ha] at h
      intro t ht
      obtain ⟨k, hk⟩ := check2_zero h t ht
      rw [List.all_eq_true] at ha
      exact ⟨(of_decide_eq_true (ha t ht)).1, k, hk, (findC_lt hk).1⟩
    · rw [if_neg ha] at h; cases h
/-- The places of those that pass. -/
theorem passTo_at {cols : List Col3} {l : List Tst} {L : List (List Val3)} {k N : Nat} (hk : k < N) (h : rowT cols l (L.getD k []) = 2) :
    ∃ h : (passTo cols l L k).length < (passTo cols l L N).length, (passTo cols l L N)[(passTo cols l L k).length] = k := by
  obtain ⟨m, rfl⟩ : ∃ m, N = k + (m + 1) := ⟨N - k - 1, by omega⟩
  have e3 : passTo cols l L (k + (m + 1)) = passTo cols l L k ++ k :: ((((List.range m).map Nat.succ).map (k + ·)).filter (fun i => decide (rowT cols l (L.getD i []) = 2))) := by
    unfold passTo
    rw [List.range_add, List.filter_append, List.range_succ_eq_map, List.map_cons, Nat.add_zero, List.filter_cons_of_pos (by exact decide_eq_true h)]
  refine ⟨by rw [e3, List.length_append, List.length_cons]; omega, ?_⟩
  simp only [e3]
  rw [List.getElem_append_right (Nat.le_refl _)]
  simp
theorem passTo_some {cols : List Col3} {l : List Tst} {L : List (List Val3)} {k : Nat} (h : 0 < (passTo cols l L k).length) : ∃ i, i < k ∧ rowT cols l (L.getD i []) = 2 := by
  obtain ⟨i, hi⟩ := List.exists_mem_of_length_pos h
  unfold passTo at hi
  rw [List.mem_filter, List.mem_range] at hi
  exact ⟨i, hi.1, of_decide_eq_true hi.2⟩
theorem rowsC_getD {cs : List (List Val3)} {N k : Nat} (hN : heightC cs = N) (hk : k < N) : (rowsC cs).getD k [] = rowAt cs k := by
  unfold rowsC
  rw [List.getD_eq_getElem?_getD, List.getElem?_map, List.getElem?_range (by omega)]
  rfl
end Go.Proofs.YtkdpjocglfephaaDoor

/- The document's Find, Can of a zone, test of a value. (tools/gen_refpd1.py) -/








namespace Go.Proofs.YtkdpjocglfephaaDoor
open Go.RowKit
set_option linter.unusedVariables false

set_option maxRecDepth 100000 in
set_option maxHeartbeats 4000000 in
theorem refFindP_any (A : Option Addr) (n c : Nat) (last : Int) (l : List Col3) (v : ByteArray) (w : World) (hn : n = l.length) (hl : n ≤ 100000) (hr : Has w A (fc l)) :
    Calls Tryd.prog 30 #[.agg #[.slice A n c, .int .i64 last], .string v] w (FoundP (findC l v) w) := by
  obtain ⟨q, hq⟩ : ∃ x, w.heap.size = x := ⟨_, rfl⟩
  obtain ⟨w1, hw1⟩ : ∃ x : World, w.alloc (.cells #[.slice A n c, .int .i64 last] 33) = x := ⟨_, rfl⟩
  have l1 : Later w w1 := hw1 ▸ Later.new w _
  have b1 : Blk w1 q #[.slice A n c, .int .i64 last] 33 := hw1 ▸ Blk.new w _ _ _ hq.symm
  have HB := Lib.hid b1
  have HL := Lib.hid l1
  have HW := Lib.hid hw1
  have HR := Lib.hid (hr.later l1)
  have HN := Lib.hid hn
  have HQ := Lib.hid hq
  clear l1 b1 hw1 hn hr hq
  go_enter Tryd.func30, Tryd.ntmps30
  go_wp2_with fail
  rw [HW.out, HQ.out]
  have HI0 := Lib.hid (show ∃ k : Nat, k ≤ n ∧ Value.int .i64 0 = .int .i64 k ∧ (∀ j (h : j < l.length), j < k → l[j].2.1 ≠ v) ∧ Later w1 w1 from ⟨0, Nat.zero_le _, rfl, fun j h h2 => absurd h2 (Nat.not_lt_zero _), Later.refl _⟩)
  go_loopw [6] (fun i wr => ∃ k : Nat, k ≤ n ∧ i = .int .i64 k ∧ (∀ j (h : j < l.length), j < k → l[j].2.1 ≠ v) ∧ Later w1 wr) (fun i _ => n - (intOf i).toNat)
  case atStart => exact HI0.out
  case round =>
    obtain ⟨k, hk, rfl, hall, lat⟩ := hrel
    have HALL := Lib.hid hall
    have LAT := Lib.hid lat
    have e0 := (HB.out.later lat).cell 0 _ rfl
    clear hall HI0
    by_cases hlt : k < n
    · have hkl : k < l.length := by have := HN.out; omega
      obtain ⟨b, off, rfl, c0, c1, _⟩ := (HR.out.later lat).col3 k hkl
      have HF := Lib.hid (fun (h : l[k].2.1 = v) => show findC l v = some k from firstAt hkl (by simpa using h) (fun i hi hik => by simpa using HALL.out i hi hik))
      have HY := Lib.hid (fun (h : l[k].2.1 ≠ v) => show ∀ j (h : j < l.length), j < k + 1 → l[j].2.1 ≠ v from fun j h1 h2 => by
        rcases Nat.lt_or_ge j k with h3 | h3
        · exact HALL.out j h1 h3
        · obtain rfl : j = k := by omega
          exact h)
      generalize l[k] = x at c0 c1 HF HY
      obtain ⟨xi, xs, xt⟩ := x
      dsimp only at c0 c1
      have hkn : (k : Int) < (n : Int) := by omega
      clear lat
      by_cases h1 : xs = v
      · have HX := Lib.hid (HF.out h1)
        subst h1
        go_wp2_with fail
        go_ret2
        rw [HX.out]
        exact ⟨rfl, HL.out.trans LAT.out⟩
      · have HX := Lib.hid (HY.out h1)
        have hne : (xs.toList == v.toList) = false := by rw [str_beq]; simp [h1]
        go_wp2_with fail
        go_roundw
        case rel => exact ⟨k + 1, hlt, by go_num, HX.out, LAT.out⟩
        case measure => simp [intOf]; omega
    · have HX := Lib.hid (show findC l v = none from firstNo (fun i hi => by simpa using HALL.out i hi (by have := HN.out; omega)))
      have hkn : ¬ (k : Int) < (n : Int) := by omega
      clear lat
      go_wp2_with fail
      go_ret2
      rw [HX.out]
      exact ⟨rfl, HL.out.trans LAT.out⟩


set_option maxRecDepth 100000 in
set_option maxHeartbeats 4000000 in
theorem refCanZ_any (nl n op a1 a2 : Int) (a3 : ByteArray) (b1 b2 : Int) (b3 : ByteArray) (v1 v2 : Int) (vs : ByteArray) (w : World) (hop : 1 ≤ op ∧ op ≤ 8) :
    Calls Tryd.prog 36 #[.agg #[.int .i64 nl, .int .i64 a1, .int .i64 a2, .string a3, .int .i64 b1, .int .i64 b2, .string b3], .int .i64 n, .int .i64 op, .agg #[.int .i64 v1, .int .i64 v2, .string vs]] w fun e w' => e = .returned (.bool (canZ nl (a1, a2, a3) (b1, b2, b3) n op (v1, v2, vs))) ∧ Later w w' := by
  obtain ⟨gz, hgz⟩ : ∃ g, w.heap.size = g := ⟨_, rfl⟩
  obtain ⟨w1, hw1⟩ : ∃ x : World, (w.alloc (.cells #[.int .i64 nl, .int .i64 a1, .int .i64 a2, .string a3, .int .i64 b1, .int .i64 b2, .string b3] 50)).alloc (.cells #[.int .i64 v1, .int .i64 v2, .string vs] 26) = x := ⟨_, rfl⟩
  have BZ := (Blk.new w #[.int .i64 nl, .int .i64 a1, .int .i64 a2, .string a3, .int .i64 b1, .int .i64 b2, .string b3] 50 gz hgz.symm).later (Later.new _ (.cells #[.int .i64 v1, .int .i64 v2, .string vs] 26))
  have BV := Blk.new (w.alloc (.cells #[.int .i64 nl, .int .i64 a1, .int .i64 a2, .string a3, .int .i64 b1, .int .i64 b2, .string b3] 50)) #[.int .i64 v1, .int .i64 v2, .string vs] 26 (gz + 1) (by simp [hgz])
  have L1 := (Later.new w (.cells #[.int .i64 nl, .int .i64 a1, .int .i64 a2, .string a3, .int .i64 b1, .int .i64 b2, .string b3] 50)).alloc (.cells #[.int .i64 v1, .int .i64 v2, .string vs] 26)
  rw [hw1] at BZ BV L1
  have HL1 := Lib.hid L1
  have HBZ := Lib.hid BZ
  have HBV := Lib.hid BV
  have z0 := BZ.cell 0 _ rfl
  have z1 := BZ.cell 1 _ rfl
  have x0 := BV.cell 0 _ rfl
  clear L1 BZ BV
  by_cases h7 : op = 7
  · subst h7
    have hc : canZ nl (a1, a2, a3) (b1, b2, b3) n 7 (v1, v2, vs) = decide (0 < nl) := rfl
    have HC := Lib.hid hc
    clear hc
    go_enter Tryd.func36, Tryd.ntmps36
    go_wp2_with fail
    go_ret
    rw [HC.out]
    exact ⟨rfl, HL1.out⟩
  · by_cases h8 : op = 8
    · subst h8
      have hc : canZ nl (a1, a2, a3) (b1, b2, b3) n 8 (v1, v2, vs) = decide (nl < n) := rfl
      have HC := Lib.hid hc
      clear hc h7
      go_enter Tryd.func36, Tryd.ntmps36
      go_wp2_with fail
      go_ret
      rw [HC.out]
      exact ⟨rfl, HL1.out⟩
    · have e7 : (op == 7) = false := by simpa using h7
      have e8 : (op == 8) = false := by simpa using h8
      have hc : canZ nl (a1, a2, a3) (b1, b2, b3) n op (v1, v2, vs) = if v1 = 0 ∨ a1 = 0 then false else between op (cmp3 (a1, a2, a3) (v1, v2, vs)) (cmp3 (b1, b2, b3) (v1, v2, vs)) := by
        unfold canZ; rw [if_neg h7, if_neg h8]
      by_cases hv : v1 = 0
      · rw [if_pos (.inl hv)] at hc
        subst hv
        have HC := Lib.hid hc
        clear hc h7 h8
        go_enter Tryd.func36, Tryd.ntmps36
        go_wp2_with fail
        go_ret
        rw [HC.out]
        exact ⟨rfl, HL1.out⟩
      · by_cases ha : a1 = 0
        · rw [if_pos (.inr ha)] at hc
          subst ha
          have e0 : (v1 == 0) = false := by simpa using hv
          have HC := Lib.hid hc
          clear hc h7 h8 hv
          go_enter Tryd.func36, Tryd.ntmps36
          go_wp2_with fail
          go_ret
          rw [HC.out]
          exact ⟨rfl, HL1.out⟩
        · rw [if_neg (by rintro (h | h); exact hv h; exact ha h)] at hc
          have e0 : (v1 == 0) = false := by simpa using hv
          have e1 : (a1 == 0) = false := by simpa using ha
          have i1 : cmp3 (a1, a2, a3) (v1, v2, vs) = -1 ∨ cmp3 (a1, a2, a3) (v1, v2, vs) = 0 ∨ cmp3 (a1, a2, a3) (v1, v2, vs) = 1 := cmpV_in a1 a2 a3 v1 v2 vs
          have i2 : cmp3 (b1, b2, b3) (v1, v2, vs) = -1 ∨ cmp3 (b1, b2, b3) (v1, v2, vs) = 0 ∨ cmp3 (b1, b2, b3) (v1, v2, vs) = 1 := cmpV_in b1 b2 b3 v1 v2 vs
          have HC1 := Lib.hid (fun (W : World) (l : Later w1 W) => show Calls Tryd.prog 26 #[vagg a1 a2 a3, vagg v1 v2 vs] W (fun e w' => e = .returned (.int .i64 (cmp3 (a1, a2, a3) (v1, v2, vs))) ∧ Later W w') from refCmp_any a1 a2 a3 v1 v2 vs W)
          have HC2 := Lib.hid (fun (W : World) (l : Later w1 W) => show Calls Tryd.prog 26 #[vagg b1 b2 b3, vagg v1 v2 vs] W (fun e w' => e = .returned (.int .i64 (cmp3 (b1, b2, b3) (v1, v2, vs))) ∧ Later W w') from refCmp_any b1 b2 b3 v1 v2 vs W)
          obtain ⟨lo, hlo⟩ : ∃ x, cmp3 (a1, a2, a3) (v1, v2, vs) = x := ⟨_, rfl⟩
          obtain ⟨hi, hhi⟩ : ∃ x, cmp3 (b1, b2, b3) (v1, v2, vs) = x := ⟨_, rfl⟩
          rw [hlo] at i1 HC1 hc
          rw [hhi] at i2 HC2 hc
          have HC := Lib.hid hc
          have HW := Lib.hid hw1
          have HI1 := Lib.hid i1
          have HI2 := Lib.hid i2
          clear hc h7 h8 hv ha hlo hhi i1 i2
          go_enter Tryd.func36, Tryd.ntmps36
          go_upto_region 8 with fail
          try rw [HW.out]
          clear z0 z1 x0 hw1
          go_cut [9, 10] from 32 to 39 (fun u1 u2 wx => u1 = .int .i64 lo ∧ u2 = .int .i64 hi ∧ Later w1 wx)
          case first => as_aux_lemma =>
            refine wp_region_K (S := fun W : World => Later w1 W) (R := Later) (fun _ => Later.refl _) (by kernel_rfl) ?_
            have hS : (fun W : World => Later w1 W) w1.drew := (Later.refl w1).drew
            refine wpAnyK_take Later.refl (fun _ _ _ h k => h.trans k) (fun _ _ h k => h.trans k) (i := 0) (oi := { dst := some 32, op := _, type := _, pos := _, after := _, guard := _ }) (v := ?_) rfl (by kernel_rfl) (by kernel_rfl) (by kernel_rfl) (fun _ _ _ h => h) (Or.inl (Or.inl ⟨by rfl, ?_⟩)) hS ?_
            rotate_left
            focus ((intro w hSw; (try dsimp only at hSw); skip; go_simp); (try with_reducible rfl))
            intro wq hwq
            replace hS := hS.trans hwq
            (try simp only [Act.put, List.setIfInBounds_toArray, List.set_cons_zero, List.set_cons_succ])
            clear hwq
            refine wpAnyK_take Later.refl (fun _ _ _ h k => h.trans k) (fun _ _ h k => h.trans k) (i := 1) (oi := { dst := some 33, op := _, type := _, pos := _, after := _, guard := _ }) (v := ?_) rfl (by kernel_rfl) (by kernel_rfl) (by kernel_rfl) (fun _ _ _ h => h) (Or.inl (Or.inl ⟨by rfl, ?_⟩)) hS ?_
            rotate_left
            focus ((intro w hSw; (try dsimp only at hSw); have f1 := (HBZ.out.later hSw).cell 1 _ rfl; have f2 := (HBZ.out.later hSw).cell 2 _ rfl; have f3 := (HBZ.out.later hSw).cell 3 _ rfl; have f4 := (HBZ.out.later hSw).cell 4 _ rfl; have f5 := (HBZ.out.later hSw).cell 5 _ rfl; have f6 := (HBZ.out.later hSw).cell 6 _ rfl; have g0 := (HBV.out.later hSw).cell 0 _ rfl; have g1 := (HBV.out.later hSw).cell 1 _ rfl; have g2 := (HBV.out.later hSw).cell 2 _ rfl; go_simp); (try with_reducible rfl))
            intro wq hwq
            replace hS := hS.trans hwq
            (try simp only [Act.put, List.setIfInBounds_toArray, List.set_cons_zero, List.set_cons_succ])
            clear hwq
            refine wpAnyK_take Later.refl (fun _ _ _ h k => h.trans k) (fun _ _ h k => h.trans k) (i := 2) (oi := { dst := some 34, op := _, type := _, pos := _, after := _, guard := _ }) (v := ?_) rfl (by kernel_rfl) (by kernel_rfl) (by kernel_rfl) (fun _ _ _ h => h) (Or.inl (Or.inl ⟨by rfl, ?_⟩)) hS ?_
            rotate_left
            focus ((intro w hSw; (try dsimp only at hSw); have f1 := (HBZ.out.later hSw).cell 1 _ rfl; have f2 := (HBZ.out.later hSw).cell 2 _ rfl; have f3 := (HBZ.out.later hSw).cell 3 _ rfl; have f4 := (HBZ.out.later hSw).cell 4 _ rfl; have f5 := (HBZ.out.later hSw).cell 5 _ rfl; have f6 := (HBZ.out.later hSw).cell 6 _ rfl; have g0 := (HBV.out.later hSw).cell 0 _ rfl; have g1 := (HBV.out.later hSw).cell 1 _ rfl; have g2 := (HBV.out.later hSw).cell 2 _ rfl; go_simp); (try with_reducible rfl))
            intro wq hwq
            replace hS := hS.trans hwq
            (try simp only [Act.put, List.setIfInBounds_toArray, List.set_cons_zero, List.set_cons_succ])
            clear hwq
            refine wpAnyK_take Later.refl (fun _ _ _ h k => h.trans k) (fun _ _ h k => h.trans k) (i := 3) (oi := { dst := some 35, op := _, type := _, pos := _, after := _, guard := _ }) (v := .int .i64 lo) rfl (by kernel_rfl) (by kernel_rfl) (by kernel_rfl) (fun _ _ _ h => h) (Or.inr ⟨by rfl, 26, #[vagg a1 a2 a3, vagg v1 v2 vs], fun W hW => ⟨?_, HC1.out W hW⟩⟩) hS ?_
            · first | rfl | (go_simp; done)
            intro wq hwq
            replace hS := hS.trans hwq
            (try simp only [Act.put, List.setIfInBounds_toArray, List.set_cons_zero, List.set_cons_succ])
            clear hwq
            refine wpAnyK_take Later.refl (fun _ _ _ h k => h.trans k) (fun _ _ h k => h.trans k) (i := 4) (oi := { dst := some 36, op := _, type := _, pos := _, after := _, guard := _ }) (v := ?_) rfl (by kernel_rfl) (by kernel_rfl) (by kernel_rfl) (fun _ _ _ h => h) (Or.inl (Or.inl ⟨by rfl, ?_⟩)) hS ?_
            rotate_left
            focus ((intro w hSw; (try dsimp only at hSw); skip; go_simp); (try with_reducible rfl))
            intro wq hwq
            replace hS := hS.trans hwq
            (try simp only [Act.put, List.setIfInBounds_toArray, List.set_cons_zero, List.set_cons_succ])
            clear hwq
            refine wpAnyK_take Later.refl (fun _ _ _ h k => h.trans k) (fun _ _ h k => h.trans k) (i := 5) (oi := { dst := some 37, op := _, type := _, pos := _, after := _, guard := _ }) (v := ?_) rfl (by kernel_rfl) (by kernel_rfl) (by kernel_rfl) (fun _ _ _ h => h) (Or.inl (Or.inl ⟨by rfl, ?_⟩)) hS ?_
            rotate_left
            focus ((intro w hSw; (try dsimp only at hSw); have f1 := (HBZ.out.later hSw).cell 1 _ rfl; have f2 := (HBZ.out.later hSw).cell 2 _ rfl; have f3 := (HBZ.out.later hSw).cell 3 _ rfl; have f4 := (HBZ.out.later hSw).cell 4 _ rfl; have f5 := (HBZ.out.later hSw).cell 5 _ rfl; have f6 := (HBZ.out.later hSw).cell 6 _ rfl; have g0 := (HBV.out.later hSw).cell 0 _ rfl; have g1 := (HBV.out.later hSw).cell 1 _ rfl; have g2 := (HBV.out.later hSw).cell 2 _ rfl; go_simp); (try with_reducible rfl))
            intro wq hwq
            replace hS := hS.trans hwq
            (try simp only [Act.put, List.setIfInBounds_toArray, List.set_cons_zero, List.set_cons_succ])
            clear hwq
            refine wpAnyK_take Later.refl (fun _ _ _ h k => h.trans k) (fun _ _ h k => h.trans k) (i := 6) (oi := { dst := some 38, op := _, type := _, pos := _, after := _, guard := _ }) (v := ?_) rfl (by kernel_rfl) (by kernel_rfl) (by kernel_rfl) (fun _ _ _ h => h) (Or.inl (Or.inl ⟨by rfl, ?_⟩)) hS ?_
            rotate_left
            focus ((intro w hSw; (try dsimp only at hSw); have f1 := (HBZ.out.later hSw).cell 1 _ rfl; have f2 := (HBZ.out.later hSw).cell 2 _ rfl; have f3 := (HBZ.out.later hSw).cell 3 _ rfl; have f4 := (HBZ.out.later hSw).cell 4 _ rfl; have f5 := (HBZ.out.later hSw).cell 5 _ rfl; have f6 := (HBZ.out.later hSw).cell 6 _ rfl; have g0 := (HBV.out.later hSw).cell 0 _ rfl; have g1 := (HBV.out.later hSw).cell 1 _ rfl; have g2 := (HBV.out.later hSw).cell 2 _ rfl; go_simp); (try with_reducible rfl))
            intro wq hwq
            replace hS := hS.trans hwq
            (try simp only [Act.put, List.setIfInBounds_toArray, List.set_cons_zero, List.set_cons_succ])
            clear hwq
            refine wpAnyK_take Later.refl (fun _ _ _ h k => h.trans k) (fun _ _ h k => h.trans k) (i := 7) (oi := { dst := some 39, op := _, type := _, pos := _, after := _, guard := _ }) (v := .int .i64 hi) rfl (by kernel_rfl) (by kernel_rfl) (by kernel_rfl) (fun _ _ _ h => h) (Or.inr ⟨by rfl, 26, #[vagg b1 b2 b3, vagg v1 v2 vs], fun W hW => ⟨?_, HC2.out W hW⟩⟩) hS ?_
            · first | rfl | (go_simp; done)
            intro wq hwq
            replace hS := hS.trans hwq
            (try simp only [Act.put, List.setIfInBounds_toArray, List.set_cons_zero, List.set_cons_succ])
            clear hwq
            refine wpAnyK_take Later.refl (fun _ _ _ h k => h.trans k) (fun _ _ h k => h.trans k) (i := 8) (oi := { dst := some 9, op := _, type := _, pos := _, after := _, guard := _ }) (v := ?_) rfl (by kernel_rfl) (by kernel_rfl) (by kernel_rfl) (fun _ _ _ h => h) (Or.inl (Or.inl ⟨by rfl, ?_⟩)) hS ?_
            rotate_left
            focus ((intro w hSw; (try dsimp only at hSw); skip; go_simp); (try with_reducible rfl))
            intro wq hwq
            replace hS := hS.trans hwq
            (try simp only [Act.put, List.setIfInBounds_toArray, List.set_cons_zero, List.set_cons_succ])
            clear hwq
            refine wpAnyK_take Later.refl (fun _ _ _ h k => h.trans k) (fun _ _ h k => h.trans k) (i := 9) (oi := { dst := some 10, op := _, type := _, pos := _, after := _, guard := _ }) (v := ?_) rfl (by kernel_rfl) (by kernel_rfl) (by kernel_rfl) (fun _ _ _ h => h) (Or.inl (Or.inl ⟨by rfl, ?_⟩)) hS ?_
            rotate_left
            focus ((intro w hSw; (try dsimp only at hSw); skip; go_simp); (try with_reducible rfl))
            intro wq hwq
            replace hS := hS.trans hwq
            (try simp only [Act.put, List.setIfInBounds_toArray, List.set_cons_zero, List.set_cons_succ])
            clear hwq
            refine wpAnyK_done (by kernel_rfl) ?_ _
            have HS2 := Lib.hid hS
            clear hS
            go_wp2_with fail
            go_meet
            exact ⟨rfl, rfl, HS2.out⟩
          case rest =>
          obtain ⟨rfl, rfl, lx⟩ := hcut
          have HLX := Lib.hid (HL1.out.trans lx)
          have i1 := HI1.out
          have i2 := HI2.out
          have ho : op = 1 ∨ op = 2 ∨ op = 3 ∨ op = 4 ∨ op = 5 ∨ op = 6 := by
            have h7 : op ≠ 7 := by simpa using e7
            have h8 : op ≠ 8 := by simpa using e8
            omega
          clear lx HC1 HC2 HI1 HI2 HBZ HBV HL1 HW e7 e8 e0 e1 hop
          rcases ho with rfl | rfl | rfl | rfl | rfl | rfl
          · by_cases h : lo ≤ 0
            · have d : decide (lo ≤ 0) = true := by simpa using h
              have HF := Lib.hid (show between 1 lo hi = decide (0 ≤ hi) from by simp [between, h])
              clear h i1 i2
              go_wp2_with fail
              go_ret
              rw [HC.out, HF.out]
              exact ⟨rfl, HLX.out⟩
            · have d : decide (lo ≤ 0) = false := by simpa using h
              have HF := Lib.hid (show between 1 lo hi = false from by simp [between, h])
              clear h i1 i2
              go_wp2_with fail
              go_ret
              rw [HC.out, HF.out]
              exact ⟨rfl, HLX.out⟩
          · by_cases h : lo = 0
            · have d : (lo != 0) = false := by simp [h]
              have HF := Lib.hid (show between 2 lo hi = (hi != 0) from by by_cases hh : hi = 0 <;> simp [between, h, hh])
              clear h i1 i2
              go_wp2_with fail
              go_ret
              rw [HC.out, HF.out]
              exact ⟨rfl, HLX.out⟩
            · have d : (lo != 0) = true := by simp [h]
              have HF := Lib.hid (show between 2 lo hi = true from by simp [between, h])
              clear h i1 i2
              go_wp2_with fail
              go_ret
              rw [HC.out, HF.out]
              exact ⟨rfl, HLX.out⟩
          all_goals
            clear i1 i2
            go_wp2_with fail
            go_ret
            rw [HC.out]
            exact ⟨rfl, HLX.out⟩

end Go.Proofs.YtkdpjocglfephaaDoor

/- The document's test of a value. (tools/gen_refpd1.py) -/

namespace Go.Proofs.YtkdpjocglfephaaDoor
open Go.RowKit
set_option linter.unusedVariables false

/-- Does a value pass? c: how it stands to the test's. -/
def yesT (op x c : Int) : Bool := if op = 7 then decide (x = 0) else if op = 8 then !decide (x = 0) else between op c c
theorem saysT_yes (op : Int) (t v : Val3) (h : 1 ≤ op ∧ op ≤ 8) : saysT op t v = if op < 7 ∧ (v.1 = 0 ∨ t.1 = 0) then 1 else sureN (yesT op v.1 (cmp3 v t)) := by
  unfold saysT yesT
  by_cases h7 : op = 7
  · subst h7; simp
  · by_cases h8 : op = 8
    · subst h8; simp
    · rw [if_neg h7, if_neg h8, if_neg h7, if_neg h8]
      have : op < 7 := by omega
      simp [this]
set_option maxRecDepth 100000 in
set_option maxHeartbeats 4000000 in
theorem refTst_any (nm : ByteArray) (op vt vi : Int) (vs : ByteArray) (o nt : Bool) (xt xi : Int) (xs : ByteArray) (w : World) (hop : 1 ≤ op ∧ op ≤ 8) :
    Calls Tryd.prog 32 #[tagg nm op vt vi vs o nt, vagg xt xi xs] w fun e w' => e = .returned (.int .i64 (if nt then 2 - saysT op (vt, vi, vs) (xt, xi, xs) else saysT op (vt, vi, vs) (xt, xi, xs))) ∧ Later w w' := by
  obtain ⟨g, hg⟩ : ∃ g, w.heap.size = g := ⟨_, rfl⟩
  obtain ⟨w1, hw1⟩ : ∃ x : World, (w.alloc (.cells (tcs nm op vt vi vs o nt) 28)).alloc (.cells #[.int .i64 xt, .int .i64 xi, .string xs] 26) = x := ⟨_, rfl⟩
  have BT := (Blk.new w (tcs nm op vt vi vs o nt) 28 g hg.symm).later (Later.new _ (.cells #[.int .i64 xt, .int .i64 xi, .string xs] 26))
  have BV := Blk.new (w.alloc (.cells (tcs nm op vt vi vs o nt) 28)) #[.int .i64 xt, .int .i64 xi, .string xs] 26 (g + 1) (by simp [hg])
  have L1 := (Later.new w (.cells (tcs nm op vt vi vs o nt) 28)).alloc (.cells #[.int .i64 xt, .int .i64 xi, .string xs] 26)
  rw [hw1] at BT BV L1
  have HL1 := Lib.hid L1
  have HBT := Lib.hid BT
  have HBV := Lib.hid BV
  have HW := Lib.hid hw1
  have HG := Lib.hid hg
  have i1 : cmp3 (xt, xi, xs) (vt, vi, vs) = -1 ∨ cmp3 (xt, xi, xs) (vt, vi, vs) = 0 ∨ cmp3 (xt, xi, xs) (vt, vi, vs) = 1 := cmpV_in xt xi xs vt vi vs
  have HC1 := Lib.hid (show Calls Tryd.prog 26 #[vagg xt xi xs, vagg vt vi vs] w1 (fun e w' => e = .returned (.int .i64 (cmp3 (xt, xi, xs) (vt, vi, vs))) ∧ Later w1 w') from refCmp_any xt xi xs vt vi vs w1)
  have hs := saysT_yes op (vt, vi, vs) (xt, xi, xs) hop
  dsimp only at hs
  obtain ⟨c, hc⟩ : ∃ x, cmp3 (xt, xi, xs) (vt, vi, vs) = x := ⟨_, rfl⟩
  rw [hc] at i1 HC1 hs
  obtain ⟨y, hy⟩ : ∃ y, yesT op xt c = y := ⟨_, rfl⟩
  rw [hy] at hs
  have HS := Lib.hid hs
  have HY := Lib.hid hy
  have HI1 := Lib.hid i1
  clear L1 BT BV hw1 hg hc hs hy i1
  go_enter Tryd.func32, Tryd.ntmps32
  have t2 := HBT.out.cell 2 _ rfl
  have t3 := HBT.out.cell 3 _ rfl
  have t4 := HBT.out.cell 4 _ rfl
  have x0 := HBV.out.cell 0 _ rfl
  have x1 := HBV.out.cell 1 _ rfl
  have x2 := HBV.out.cell 2 _ rfl
  have hw1 := HW.out
  have hg := HG.out
  go_wp2_with fail
  refine HC1.out.mono ?_
  rintro e w2 ⟨rfl, lx⟩
  have HBT := Lib.hid (HBT.out.later lx)
  have HBV := Lib.hid (HBV.out.later lx)
  have HLX := Lib.hid (HL1.out.trans lx)
  clear lx HC1 t2 t3 t4 x0 x1 x2 hw1 hg HW HG HL1
  have t1 := HBT.out.cell 1 _ rfl
  go_upto_block 0 with fail
  go_cut [6] from 14 to 45 (fun v wx => v = .bool y ∧ w2 = wx)
  case first => as_aux_lemma =>
    have x0 := HBV.out.cell 0 _ rfl
    have hy := HY.out
    have i1 := HI1.out
    have ho : op = 1 ∨ op = 2 ∨ op = 3 ∨ op = 4 ∨ op = 5 ∨ op = 6 ∨ op = 7 ∨ op = 8 := by omega
    clear HY HI1 HBT t1 HS HBV HLX hop
    have HI1 := Lib.hid i1
    have HY := Lib.hid hy
    clear i1 hy
    rcases ho with rfl | rfl | rfl | rfl | rfl | rfl | rfl | rfl
    all_goals go_wp2_with fail
    all_goals go_meet
    all_goals refine ⟨?_, rfl⟩
    all_goals rw [← HY.out]
    all_goals have i1 := HI1.out
    all_goals first
      | rfl
      | (rcases i1 with rfl | rfl | rfl <;> rfl)
      | (congr 1; by_cases hx : xt = 0 <;> simp [yesT, hx])
  case rest =>
  obtain ⟨rfl, rfl⟩ := hcut
  clear HY HI1
  have t2 := HBT.out.cell 2 _ rfl
  have t6 := HBT.out.cell 6 _ rfl
  have x0 := HBV.out.cell 0 _ rfl
  clear HBT HBV
  by_cases h7 : op < 7
  · have hd7 : decide (op < 7) = true := by simpa using h7
    by_cases hx : xt = 0
    · have HS1 := Lib.hid (show saysT op (vt, vi, vs) (xt, xi, xs) = 1 from by rw [HS.out, if_pos ⟨h7, .inl hx⟩])
      subst hx
      clear HS h7 hop
      cases y <;> cases nt
      all_goals go_wp2_with fail
      all_goals go_ret
      all_goals rw [HS1.out]
      all_goals exact ⟨rfl, HLX.out⟩
    · have ex : (xt == 0) = false := by simpa using hx
      by_cases hv : vt = 0
      · have HS1 := Lib.hid (show saysT op (vt, vi, vs) (xt, xi, xs) = 1 from by rw [HS.out, if_pos ⟨h7, .inr hv⟩])
        subst hv
        clear HS h7 hop hx
        cases y <;> cases nt
        all_goals go_wp2_with fail
        all_goals go_ret
        all_goals rw [HS1.out]
        all_goals exact ⟨rfl, HLX.out⟩
      · have ev : (vt == 0) = false := by simpa using hv
        have HS1 := Lib.hid (show saysT op (vt, vi, vs) (xt, xi, xs) = sureN y from by rw [HS.out, if_neg (by rintro ⟨_, h | h⟩; exact hx h; exact hv h)])
        clear HS h7 hop hx hv
        cases y <;> cases nt
        all_goals go_wp2_with fail
        all_goals go_ret
        all_goals rw [HS1.out]
        all_goals exact ⟨rfl, HLX.out⟩
  · have hd7 : decide (op < 7) = false := by simpa using h7
    have HS1 := Lib.hid (show saysT op (vt, vi, vs) (xt, xi, xs) = sureN y from by rw [HS.out, if_neg (by rintro ⟨h, _⟩; exact h7 h)])
    clear HS h7 hop
    cases y <;> cases nt
    all_goals go_wp2_with fail
    all_goals go_ret
    all_goals rw [HS1.out]
    all_goals exact ⟨rfl, HLX.out⟩
end Go.Proofs.YtkdpjocglfephaaDoor

/- The document's Test of a row. (tools/gen_refpd3.py) -/




namespace Go.Proofs.YtkdpjocglfephaaDoor
open Go.RowKit
set_option linter.unusedVariables false

theorem oneT_at {cols : List Col3} {row : List Val3} {t : Tst} {k : Nat} (h : findC cols t.nm = some k) (hk : k < row.length) : oneT cols row t = if t.not_ then 2 - saysT t.op t.v row[k] else saysT t.op t.v row[k] := by
  unfold oneT
  rw [h]
  simp [List.getElem?_eq_getElem hk]
/-- What a round of Test leaves. -/
theorem rowS_next {cols : List Col3} {row : List Val3} {l : List Tst} {k : Nat} (hk : k < l.length) {a g : Int} (h : rowS cols row (l.take k) = (decide (0 < k), a, g)) :
    ∃ a2 g2 : Int, ((decide (0 < k) && l[k].or_) = true → a2 = max a g ∧ g2 = 2) ∧ ((decide (0 < k) && l[k].or_) = false → a2 = a ∧ g2 = g) ∧ rowS cols row (l.take (k + 1)) = (decide (0 < k + 1), a2, min g2 (oneT cols row l[k])) := by
  have hs := rowS_step hk h
  have e : decide (0 < k + 1) = true := by simp
  rcases hb : (decide (0 < k) && l[k].or_) with _ | _
  · rw [hb] at hs
    exact ⟨a, g, (fun h => by cases h), (fun _ => ⟨rfl, rfl⟩), by rw [hs, e]; rfl⟩
  · rw [hb] at hs
    exact ⟨max a g, 2, (fun _ => ⟨rfl, rfl⟩), (fun h => by cases h), by rw [hs, e]; rfl⟩

set_option maxRecDepth 100000 in
set_option maxHeartbeats 4000000 in
theorem refTestRow_any (A : Option Addr) (n c : Nat) (last : Int) (cols : List Col3) (T : Option Addr) (tn tc : Nat) (l : List Tst) (R : Option Addr) (rn rc : Nat) (row : List Val3) (w : World) (hn : n = cols.length) (hl : n ≤ 100000) (hr : Has w A (fc cols)) (htn : tn = l.length) (htl : tn ≤ 100000) (hT : Has w T (ft l)) (hrn : rn = row.length) (hrl : rn ≤ 100000) (hrow : Has w R (fl row))
    (hok : ∀ t ∈ l, (1 ≤ t.op ∧ t.op ≤ 8) ∧ ∃ k, findC cols t.nm = some k ∧ k < row.length) :
    Calls Tryd.prog 14 #[.agg #[.slice A n c, .int .i64 last], .slice T tn tc, .slice R rn rc] w fun e w' => e = .returned (.int .i64 (rowT cols l row)) ∧ Later w w' := by
  subst htn
  obtain ⟨gz, hgz⟩ : ∃ g, w.heap.size = g := ⟨_, rfl⟩
  obtain ⟨w1, hw1⟩ : ∃ x : World, w.alloc (.cells #[.slice A n c, .int .i64 last] 33) = x := ⟨_, rfl⟩
  have BS := Blk.new w #[.slice A n c, .int .i64 last] 33 gz hgz.symm
  have L1 := Later.new w (.cells #[.slice A n c, .int .i64 last] 33)
  rw [hw1] at BS L1
  have HI0 := Lib.hid (RwI.mk (cols := cols) (row := row) (l := l) (w := w1) (wr := w1) 0 0 0 2 rfl (Nat.zero_le _) rfl (Later.refl _))
  have HRN := Lib.hid hrn
  have HN := Lib.hid hn
  have HBS := Lib.hid BS
  have HL1 := Lib.hid L1
  have HR := Lib.hid (hr.later L1)
  have HT := Lib.hid (hT.later L1)
  have HROW := Lib.hid (hrow.later L1)
  have HOK := Lib.hid hok
  have HW := Lib.hid hw1
  have HG := Lib.hid hgz
  clear BS L1 hrn hn hr hT hrow hok hw1 hgz
  go_enter Tryd.func14, Tryd.ntmps14
  by_cases h0 : l.length = 0
  · have hd : ((l.length : Int) == 0) = true := by simp [h0]
    have hw1 := HW.out
    have HX := Lib.hid (show rowT cols l row = 2 from by rw [List.eq_nil_of_length_eq_zero h0]; rfl)
    go_wp2_with fail
    go_ret
    rw [HX.out]
    exact ⟨rfl, HL1.out⟩
  have hd : ((l.length : Int) == 0) = false := by rw [beq_eq_false_iff_ne]; omega
  have hw1 := HW.out
  go_wp2_with fail
  clear hw1 hd
  try rw [HG.out]
  go_loopw [7, 8, 9] (fun av gv iv wr => RwI cols row l w1 av gv iv wr) (fun _ _ i _ => l.length - (intOf i).toNat)
  case atStart => exact HI0.out
  case round =>
    obtain ⟨k, a, g, rfl, rfl, rfl, hk, hst, lat⟩ := hrel
    have HLW := Lib.hid lat
    clear HI0
    by_cases hlt : k < l.length
    · obtain ⟨tb, toff, hTA, hta⟩ := (HT.out.later lat).tst k hlt
      subst hTA
      obtain ⟨hop, fk, hfk, hfr⟩ := HOK.out _ (List.getElem_mem hlt)
      obtain ⟨vb, vo, hRA, hv0, hv1, hv2⟩ := (HROW.out.later lat).val3 fk hfr
      subst hRA
      obtain ⟨a2, g2, hb1, hb0, hnx⟩ := rowS_next hlt hst
      have ho := oneT_at hfk hfr
      have HFX := Lib.hid (show ∀ W, Later wr W → Calls Tryd.prog 30 #[.agg #[.slice A n c, .int .i64 last], .string l[k].nm] W (fun e w' => e = .returned (.tuple #[.int .i64 (fk : Int), .bool true]) ∧ Later W w') from fun W lW => by
        have h := refFindP_any A n c last cols l[k].nm W HN.out hl (HR.out.later (lat.trans lW))
        rw [hfk] at h
        exact h)
      have hfrz : (fk : Int) < (rn : Int) := by have := HRN.out; omega
      generalize l[k] = t at hta hop hfk hb1 hb0 hnx ho HFX
      generalize row[fk] = x at hv0 hv1 hv2 ho
      obtain ⟨nm, op, ⟨vt, vi, vs⟩, o, nt⟩ := t
      obtain ⟨xt, xi, xs⟩ := x
      dsimp only at hv0 hv1 hv2 hop hfk hb1 hb0 ho HFX
      obtain ⟨q, hq⟩ : ∃ q, oneT cols row ⟨nm, op, (vt, vi, vs), o, nt⟩ = q := ⟨_, rfl⟩
      rw [hq] at hnx ho
      obtain ⟨bb, hbb⟩ : ∃ b, (decide (0 < k) && o) = b := ⟨_, rfl⟩
      rw [hbb] at hb1 hb0
      obtain ⟨fb, hfb⟩ : ∃ b, b = true := ⟨_, rfl⟩
      rw [← hfb] at HFX
      have HE := Lib.hid hta
      have HBB := Lib.hid hbb
      have HB1 := Lib.hid hb1
      have HB0 := Lib.hid hb0
      have HNX := Lib.hid hnx
      have HO := Lib.hid ho
      have HOP := Lib.hid hop
      have HV0 := Lib.hid hv0
      have HV1 := Lib.hid hv1
      have HV2 := Lib.hid hv2
      have HFB := Lib.hid hfb
      clear hta hbb hb1 hb0 hnx ho hop hv0 hv1 hv2 hq hfk hst lat hfb
      obtain ⟨W9, hW9⟩ : ∃ x, x = wr := ⟨_, rfl⟩
      subst hW9
      have hkz : (k : Int) < (l.length : Int) := by omega
      go_upto_region 7 with fail
      go_cut [29] from 21 to 29 (fun v wx => v = .bool bb ∧ W9 = wx)
      case first => as_aux_lemma =>
        have e5 := HE.out.2.2.2.2.2.1.out
        dsimp only at e5
        have hbb := HBB.out
        by_cases hk0 : k = 0
        · have hd : decide ((0 : Int) < (k : Int)) = false := by simp [hk0]
          have hd2 : decide (0 < k) = false := by simp [hk0]
          have hv : bb = false := by rw [← hbb, hk0]; rfl
          clear hbb hk0
          go_wp2_with fail
          go_meet
          exact ⟨by rw [hv], rfl⟩
        · have hd : decide ((0 : Int) < (k : Int)) = true := by simp; omega
          have hd2 : decide (0 < k) = true := by simp; omega
          have hv : bb = o := by rw [← hbb]; simp; omega
          clear hbb hk0
          go_wp2_with fail
          go_meet
          exact ⟨by rw [hv], rfl⟩
      case rest =>
      obtain ⟨rfl, rfl⟩ := hcut
      go_upto_if 29 with fail
      go_cut [7, 8] from 30 to 32 (fun u1 u2 wx => u1 = .int .i64 a2 ∧ u2 = .int .i64 g2 ∧ W9 = wx)
      case first => as_aux_lemma =>
        have hb1 := HB1.out
        have hb0 := HB0.out
        cases bb with
        | true =>
          obtain ⟨rfl, rfl⟩ := hb1 rfl
          clear hb0
          go_wp2_with fail
          go_meet
          exact ⟨rfl, rfl, rfl⟩
        | false =>
          obtain ⟨rfl, rfl⟩ := hb0 rfl
          clear hb1
          go_wp2_with fail
          go_meet
          exact ⟨rfl, rfl, rfl⟩
      case rest =>
      obtain ⟨rfl, rfl, rfl⟩ := hcut
      have HFD := Lib.hid (fun W (h : Later W9 W) => HFX.out W h)
      clear HBB HB1 HB0
      go_upto_region 9 with fail
      go_cut [10, 11] from 33 to 42 (fun u1 u2 wx => u1 = .int .i64 (fk : Int) ∧ u2 = .bool fb ∧ Later W9 wx)
      case first => as_aux_lemma =>
        refine wp_region_K (S := fun W : World => Later W9 W) (R := Later) (fun _ => Later.refl _) (by kernel_rfl) ?_
        have hS : (fun W : World => Later W9 W) W9.drew := (Later.refl W9).drew
        refine wpAnyK_take Later.refl (fun _ _ _ h k => h.trans k) (fun _ _ h k => h.trans k) (i := 0) (oi := { dst := some 34, op := _, type := _, pos := _, after := _, guard := _ }) (v := ?_) rfl (by kernel_rfl) (by kernel_rfl) (by kernel_rfl) (fun _ _ _ h => h) (Or.inl (Or.inl ⟨by rfl, ?_⟩)) hS ?_
        rotate_left
        focus ((intro w hSw; (try dsimp only at hSw); have s0 := (HBS.out.later (HLW.out.trans hSw)).cell 0 _ rfl; have s1 := (HBS.out.later (HLW.out.trans hSw)).cell 1 _ rfl; go_simp); (try with_reducible rfl))
        intro wq hwq
        replace hS := hS.trans hwq
        (try simp only [Act.put, List.setIfInBounds_toArray, List.set_cons_zero, List.set_cons_succ])
        clear hwq
        refine wpAnyK_take Later.refl (fun _ _ _ h k => h.trans k) (fun _ _ h k => h.trans k) (i := 1) (oi := { dst := some 35, op := _, type := _, pos := _, after := _, guard := _ }) (v := ?_) rfl (by kernel_rfl) (by kernel_rfl) (by kernel_rfl) (fun _ _ _ h => h) (Or.inl (Or.inl ⟨by rfl, ?_⟩)) hS ?_
        rotate_left
        focus ((intro w hSw; (try dsimp only at hSw); skip; go_simp); (try with_reducible rfl))
        intro wq hwq
        replace hS := hS.trans hwq
        (try simp only [Act.put, List.setIfInBounds_toArray, List.set_cons_zero, List.set_cons_succ])
        clear hwq
        refine wpAnyK_take Later.refl (fun _ _ _ h k => h.trans k) (fun _ _ h k => h.trans k) (i := 2) (oi := { dst := some 36, op := _, type := _, pos := _, after := _, guard := _ }) (v := ?_) rfl (by kernel_rfl) (by kernel_rfl) (by kernel_rfl) (fun _ _ _ h => h) (Or.inl (Or.inl ⟨by rfl, ?_⟩)) hS ?_
        rotate_left
        focus ((intro w hSw; (try dsimp only at hSw); skip; go_simp); (try with_reducible rfl))
        intro wq hwq
        replace hS := hS.trans hwq
        (try simp only [Act.put, List.setIfInBounds_toArray, List.set_cons_zero, List.set_cons_succ])
        clear hwq
        refine wpAnyK_take Later.refl (fun _ _ _ h k => h.trans k) (fun _ _ h k => h.trans k) (i := 3) (oi := { dst := some 37, op := _, type := _, pos := _, after := _, guard := _ }) (v := ?_) rfl (by kernel_rfl) (by kernel_rfl) (by kernel_rfl) (fun _ _ _ h => h) (Or.inl (Or.inl ⟨by rfl, ?_⟩)) hS ?_
        rotate_left
        focus ((intro w hSw; (try dsimp only at hSw); skip; go_simp); (try with_reducible rfl))
        intro wq hwq
        replace hS := hS.trans hwq
        (try simp only [Act.put, List.setIfInBounds_toArray, List.set_cons_zero, List.set_cons_succ])
        clear hwq
        refine wpAnyK_take Later.refl (fun _ _ _ h k => h.trans k) (fun _ _ h k => h.trans k) (i := 4) (oi := { dst := some 38, op := _, type := _, pos := _, after := _, guard := _ }) (v := ?_) rfl (by kernel_rfl) (by kernel_rfl) (by kernel_rfl) (fun _ _ _ h => h) (Or.inl (Or.inl ⟨by rfl, ?_⟩)) hS ?_
        rotate_left
        focus ((intro w hSw; (try dsimp only at hSw); skip; go_simp); (try with_reducible rfl))
        intro wq hwq
        replace hS := hS.trans hwq
        (try simp only [Act.put, List.setIfInBounds_toArray, List.set_cons_zero, List.set_cons_succ])
        clear hwq
        refine wpAnyK_take Later.refl (fun _ _ _ h k => h.trans k) (fun _ _ h k => h.trans k) (i := 5) (oi := { dst := some 39, op := _, type := _, pos := _, after := _, guard := _ }) (v := ?_) rfl (by kernel_rfl) (by kernel_rfl) (by kernel_rfl) (fun _ _ _ h => h) (Or.inl (Or.inl ⟨by rfl, ?_⟩)) hS ?_
        rotate_left
        focus ((intro w hSw; (try dsimp only at hSw); have e0 := (HE.out.later hSw).1.out; have e1 := (HE.out.later hSw).2.1.out; have e2 := (HE.out.later hSw).2.2.1.out; have e3 := (HE.out.later hSw).2.2.2.1.out; have e4 := (HE.out.later hSw).2.2.2.2.1.out; have e5 := (HE.out.later hSw).2.2.2.2.2.1.out; have e6 := (HE.out.later hSw).2.2.2.2.2.2.out; dsimp only at e0 e1 e2 e3 e4 e5 e6; go_simp); (try with_reducible rfl))
        intro wq hwq
        replace hS := hS.trans hwq
        (try simp only [Act.put, List.setIfInBounds_toArray, List.set_cons_zero, List.set_cons_succ])
        clear hwq
        refine wpAnyK_take Later.refl (fun _ _ _ h k => h.trans k) (fun _ _ h k => h.trans k) (i := 6) (oi := { dst := some 40, op := _, type := _, pos := _, after := _, guard := _ }) (v := .tuple #[.int .i64 fk, .bool fb]) rfl (by kernel_rfl) (by kernel_rfl) (by kernel_rfl) (fun _ _ _ h => h) (Or.inr ⟨by rfl, 30, #[.agg #[.slice A n c, .int .i64 last], .string nm], fun W hW => ⟨?_, HFD.out W hW⟩⟩) hS ?_
        · first | rfl | (go_simp; done)
        intro wq hwq
        replace hS := hS.trans hwq
        (try simp only [Act.put, List.setIfInBounds_toArray, List.set_cons_zero, List.set_cons_succ])
        clear hwq
        refine wpAnyK_take Later.refl (fun _ _ _ h k => h.trans k) (fun _ _ h k => h.trans k) (i := 7) (oi := { dst := some 33, op := _, type := _, pos := _, after := _, guard := _ }) (v := ?_) rfl (by kernel_rfl) (by kernel_rfl) (by kernel_rfl) (fun _ _ _ h => h) (Or.inl (Or.inl ⟨by rfl, ?_⟩)) hS ?_
        rotate_left
        focus ((intro w hSw; (try dsimp only at hSw); skip; go_simp); (try with_reducible rfl))
        intro wq hwq
        replace hS := hS.trans hwq
        (try simp only [Act.put, List.setIfInBounds_toArray, List.set_cons_zero, List.set_cons_succ])
        clear hwq
        refine wpAnyK_take Later.refl (fun _ _ _ h k => h.trans k) (fun _ _ h k => h.trans k) (i := 8) (oi := { dst := some 41, op := _, type := _, pos := _, after := _, guard := _ }) (v := ?_) rfl (by kernel_rfl) (by kernel_rfl) (by kernel_rfl) (fun _ _ _ h => h) (Or.inl (Or.inl ⟨by rfl, ?_⟩)) hS ?_
        rotate_left
        focus ((intro w hSw; (try dsimp only at hSw); skip; go_simp); (try with_reducible rfl))
        intro wq hwq
        replace hS := hS.trans hwq
        (try simp only [Act.put, List.setIfInBounds_toArray, List.set_cons_zero, List.set_cons_succ])
        clear hwq
        refine wpAnyK_take Later.refl (fun _ _ _ h k => h.trans k) (fun _ _ h k => h.trans k) (i := 9) (oi := { dst := some 42, op := _, type := _, pos := _, after := _, guard := _ }) (v := ?_) rfl (by kernel_rfl) (by kernel_rfl) (by kernel_rfl) (fun _ _ _ h => h) (Or.inl (Or.inl ⟨by rfl, ?_⟩)) hS ?_
        rotate_left
        focus ((intro w hSw; (try dsimp only at hSw); skip; go_simp); (try with_reducible rfl))
        intro wq hwq
        replace hS := hS.trans hwq
        (try simp only [Act.put, List.setIfInBounds_toArray, List.set_cons_zero, List.set_cons_succ])
        clear hwq
        refine wpAnyK_take Later.refl (fun _ _ _ h k => h.trans k) (fun _ _ h k => h.trans k) (i := 10) (oi := { dst := some 10, op := _, type := _, pos := _, after := _, guard := _ }) (v := ?_) rfl (by kernel_rfl) (by kernel_rfl) (by kernel_rfl) (fun _ _ _ h => h) (Or.inl (Or.inl ⟨by rfl, ?_⟩)) hS ?_
        rotate_left
        focus ((intro w hSw; (try dsimp only at hSw); skip; go_simp); (try with_reducible rfl))
        intro wq hwq
        replace hS := hS.trans hwq
        (try simp only [Act.put, List.setIfInBounds_toArray, List.set_cons_zero, List.set_cons_succ])
        clear hwq
        refine wpAnyK_take Later.refl (fun _ _ _ h k => h.trans k) (fun _ _ h k => h.trans k) (i := 11) (oi := { dst := some 11, op := _, type := _, pos := _, after := _, guard := _ }) (v := ?_) rfl (by kernel_rfl) (by kernel_rfl) (by kernel_rfl) (fun _ _ _ h => h) (Or.inl (Or.inl ⟨by rfl, ?_⟩)) hS ?_
        rotate_left
        focus ((intro w hSw; (try dsimp only at hSw); skip; go_simp); (try with_reducible rfl))
        intro wq hwq
        replace hS := hS.trans hwq
        (try simp only [Act.put, List.setIfInBounds_toArray, List.set_cons_zero, List.set_cons_succ])
        clear hwq
        refine wpAnyK_done (by kernel_rfl) ?_ _
        have HS2 := Lib.hid hS
        clear hS
        go_wp2_with fail
        go_meet
        exact ⟨rfl, rfl, HS2.out⟩
      case rest =>
      obtain ⟨rfl, rfl, lx⟩ := hcut
      have HE := Lib.hid (HE.out.later lx)
      have HV0 := Lib.hid (lx.cell HV0.out)
      have HV1 := Lib.hid (lx.cell HV1.out)
      have HV2 := Lib.hid (lx.cell HV2.out)
      have HLX := Lib.hid (HLW.out.trans lx)
      clear lx HFD HFX HLW
      obtain ⟨W9, hW9⟩ : ∃ x, x = wc := ⟨_, rfl⟩
      subst hW9
      have HTS := Lib.hid (fun (W : World) (h : Later W9 W) => show Calls Tryd.prog 32 #[tagg nm op vt vi vs o nt, vagg xt xi xs] W (fun e w' => e = .returned (.int .i64 q) ∧ Later W w') from by
        rw [HO.out]; exact refTst_any nm op vt vi vs o nt xt xi xs W HOP.out)
      go_upto_region 10 with fail
      refine wp_region_K (S := fun W : World => Later W9 W) (R := Later) (fun _ => Later.refl _) (by kernel_rfl) ?_
      have hS : (fun W : World => Later W9 W) W9.drew := (Later.refl W9).drew
      refine wpAnyK_take Later.refl (fun _ _ _ h k => h.trans k) (fun _ _ h k => h.trans k) (i := 0) (oi := { dst := some 43, op := _, type := _, pos := _, after := _, guard := _ }) (v := ?_) rfl (by kernel_rfl) (by kernel_rfl) (by kernel_rfl) (fun _ _ _ h => h) (Or.inl (Or.inl ⟨by rfl, ?_⟩)) hS ?_
      rotate_left
      focus ((intro w hSw; (try dsimp only at hSw); skip; go_simp); (try with_reducible rfl))
      intro wq hwq
      replace hS := hS.trans hwq
      (try simp only [Act.put, List.setIfInBounds_toArray, List.set_cons_zero, List.set_cons_succ])
      clear hwq
      refine wpAnyK_take Later.refl (fun _ _ _ h k => h.trans k) (fun _ _ h k => h.trans k) (i := 1) (oi := { dst := some 44, op := _, type := _, pos := _, after := _, guard := _ }) (v := ?_) rfl (by kernel_rfl) (by kernel_rfl) (by kernel_rfl) (fun _ _ _ h => h) (Or.inl (Or.inl ⟨by rfl, ?_⟩)) hS ?_
      rotate_left
      focus ((intro w hSw; (try dsimp only at hSw); skip; go_simp); (try with_reducible rfl))
      intro wq hwq
      replace hS := hS.trans hwq
      (try simp only [Act.put, List.setIfInBounds_toArray, List.set_cons_zero, List.set_cons_succ])
      clear hwq
      refine wpAnyK_take Later.refl (fun _ _ _ h k => h.trans k) (fun _ _ h k => h.trans k) (i := 2) (oi := { dst := some 45, op := _, type := _, pos := _, after := _, guard := _ }) (v := ?_) rfl (by kernel_rfl) (by kernel_rfl) (by kernel_rfl) (fun _ _ _ h => h) (Or.inl (Or.inl ⟨by rfl, ?_⟩)) hS ?_
      rotate_left
      focus ((intro w hSw; (try dsimp only at hSw); skip; go_simp); (try with_reducible rfl))
      intro wq hwq
      replace hS := hS.trans hwq
      (try simp only [Act.put, List.setIfInBounds_toArray, List.set_cons_zero, List.set_cons_succ])
      clear hwq
      refine wpAnyK_take Later.refl (fun _ _ _ h k => h.trans k) (fun _ _ h k => h.trans k) (i := 3) (oi := { dst := some 46, op := _, type := _, pos := _, after := _, guard := _ }) (v := ?_) rfl (by kernel_rfl) (by kernel_rfl) (by kernel_rfl) (fun _ _ _ h => h) (Or.inl (Or.inl ⟨by rfl, ?_⟩)) hS ?_
      rotate_left
      focus ((intro w hSw; (try dsimp only at hSw); skip; go_simp); (try with_reducible rfl))
      intro wq hwq
      replace hS := hS.trans hwq
      (try simp only [Act.put, List.setIfInBounds_toArray, List.set_cons_zero, List.set_cons_succ])
      clear hwq
      refine wpAnyK_take Later.refl (fun _ _ _ h k => h.trans k) (fun _ _ h k => h.trans k) (i := 4) (oi := { dst := some 47, op := _, type := _, pos := _, after := _, guard := _ }) (v := ?_) rfl (by kernel_rfl) (by kernel_rfl) (by kernel_rfl) (fun _ _ _ h => h) (Or.inl (Or.inl ⟨by rfl, ?_⟩)) hS ?_
      rotate_left
      focus ((intro w hSw; (try dsimp only at hSw); have e0 := (HE.out.later hSw).1.out; have e1 := (HE.out.later hSw).2.1.out; have e2 := (HE.out.later hSw).2.2.1.out; have e3 := (HE.out.later hSw).2.2.2.1.out; have e4 := (HE.out.later hSw).2.2.2.2.1.out; have e5 := (HE.out.later hSw).2.2.2.2.2.1.out; have e6 := (HE.out.later hSw).2.2.2.2.2.2.out; dsimp only at e0 e1 e2 e3 e4 e5 e6; go_simp); (try with_reducible rfl))
      intro wq hwq
      replace hS := hS.trans hwq
      (try simp only [Act.put, List.setIfInBounds_toArray, List.set_cons_zero, List.set_cons_succ])
      clear hwq
      refine wpAnyK_take Later.refl (fun _ _ _ h k => h.trans k) (fun _ _ h k => h.trans k) (i := 5) (oi := { dst := some 48, op := _, type := _, pos := _, after := _, guard := _ }) (v := ?_) rfl (by kernel_rfl) (by kernel_rfl) (by kernel_rfl) (fun _ _ _ h => h) (Or.inl (Or.inl ⟨by rfl, ?_⟩)) hS ?_
      rotate_left
      focus ((intro w hSw; (try dsimp only at hSw); skip; go_simp); (try with_reducible rfl))
      intro wq hwq
      replace hS := hS.trans hwq
      (try simp only [Act.put, List.setIfInBounds_toArray, List.set_cons_zero, List.set_cons_succ])
      clear hwq
      refine wpAnyK_take Later.refl (fun _ _ _ h k => h.trans k) (fun _ _ h k => h.trans k) (i := 6) (oi := { dst := some 49, op := _, type := _, pos := _, after := _, guard := _ }) (v := ?_) rfl (by kernel_rfl) (by kernel_rfl) (by kernel_rfl) (fun _ _ _ h => h) (Or.inl (Or.inl ⟨by rfl, ?_⟩)) hS ?_
      rotate_left
      focus ((intro w hSw; (try dsimp only at hSw); skip; go_simp); (try with_reducible rfl))
      intro wq hwq
      replace hS := hS.trans hwq
      (try simp only [Act.put, List.setIfInBounds_toArray, List.set_cons_zero, List.set_cons_succ])
      clear hwq
      refine wpAnyK_take Later.refl (fun _ _ _ h k => h.trans k) (fun _ _ h k => h.trans k) (i := 7) (oi := { dst := some 50, op := _, type := _, pos := _, after := _, guard := _ }) (v := ?_) rfl (by kernel_rfl) (by kernel_rfl) (by kernel_rfl) (fun _ _ _ h => h) (Or.inl (Or.inl ⟨by rfl, ?_⟩)) hS ?_
      rotate_left
      focus ((intro w hSw; (try dsimp only at hSw); skip; go_simp); (try with_reducible rfl))
      intro wq hwq
      replace hS := hS.trans hwq
      (try simp only [Act.put, List.setIfInBounds_toArray, List.set_cons_zero, List.set_cons_succ])
      clear hwq
      refine wpAnyK_take Later.refl (fun _ _ _ h k => h.trans k) (fun _ _ h k => h.trans k) (i := 8) (oi := { dst := some 51, op := _, type := _, pos := _, after := _, guard := _ }) (v := ?_) rfl (by kernel_rfl) (by kernel_rfl) (by kernel_rfl) (fun _ _ _ h => h) (Or.inl (Or.inl ⟨by rfl, ?_⟩)) hS ?_
      rotate_left
      focus ((intro w hSw; (try dsimp only at hSw); have v0 := hSw.cell HV0.out; have v1 := hSw.cell HV1.out; have v2 := hSw.cell HV2.out; go_simp); (try with_reducible rfl))
      intro wq hwq
      replace hS := hS.trans hwq
      (try simp only [Act.put, List.setIfInBounds_toArray, List.set_cons_zero, List.set_cons_succ])
      clear hwq
      refine wpAnyK_take Later.refl (fun _ _ _ h k => h.trans k) (fun _ _ h k => h.trans k) (i := 9) (oi := { dst := some 52, op := _, type := _, pos := _, after := _, guard := _ }) (v := .int .i64 q) rfl (by kernel_rfl) (by kernel_rfl) (by kernel_rfl) (fun _ _ _ h => h) (Or.inr ⟨by rfl, 32, #[tagg nm op vt vi vs o nt, vagg xt xi xs], fun W hW => ⟨?_, HTS.out W hW⟩⟩) hS ?_
      · first | rfl | (go_simp; done)
      intro wq hwq
      replace hS := hS.trans hwq
      (try simp only [Act.put, List.setIfInBounds_toArray, List.set_cons_zero, List.set_cons_succ])
      clear hwq
      refine wpAnyK_take Later.refl (fun _ _ _ h k => h.trans k) (fun _ _ h k => h.trans k) (i := 10) (oi := { dst := some 53, op := _, type := _, pos := _, after := _, guard := _ }) (v := ?_) rfl (by kernel_rfl) (by kernel_rfl) (by kernel_rfl) (fun _ _ _ h => h) (Or.inl (Or.inl ⟨by rfl, ?_⟩)) hS ?_
      rotate_left
      focus ((intro w hSw; (try dsimp only at hSw); skip; go_simp); (try with_reducible rfl))
      intro wq hwq
      replace hS := hS.trans hwq
      (try simp only [Act.put, List.setIfInBounds_toArray, List.set_cons_zero, List.set_cons_succ])
      clear hwq
      refine wpAnyK_take Later.refl (fun _ _ _ h k => h.trans k) (fun _ _ h k => h.trans k) (i := 11) (oi := { dst := some 8, op := _, type := _, pos := _, after := _, guard := _ }) (v := ?_) rfl (by kernel_rfl) (by kernel_rfl) (by kernel_rfl) (fun _ _ _ h => h) (Or.inl (Or.inl ⟨by rfl, ?_⟩)) hS ?_
      rotate_left
      focus ((intro w hSw; (try dsimp only at hSw); skip; go_simp); (try with_reducible rfl))
      intro wq hwq
      replace hS := hS.trans hwq
      (try simp only [Act.put, List.setIfInBounds_toArray, List.set_cons_zero, List.set_cons_succ])
      clear hwq
      refine wpAnyK_done (by kernel_rfl) ?_ _
      have HLY := Lib.hid (HLX.out.trans hS)
      clear hS HTS HE HV0 HV1 HV2 HLX
      go_wp2_with fail
      go_roundw
      case rel => exact RwI.mk _ (k + 1) _ _ (by omega) hlt HNX.out HLY.out
      case measure => simp [intOf]; omega
    · have HE := Lib.hid (show rowT cols l row = max a g from by
        have : k = l.length := by omega
        subst this
        rw [List.take_length] at hst
        unfold rowT; rw [hst])
      have HLZ := Lib.hid (HL1.out.trans lat)
      clear hst lat
      go_wp2_with fail
      go_ret
      rw [HE.out]
      exact ⟨rfl, HLZ.out⟩
end Go.Proofs.YtkdpjocglfephaaDoor
