
import Derived.Test.YtkdpjocglfephaaDoorGrpT
import Derived.Test.YtkdpjocglfephaaDoorRefOne
import Derived.Test.YtkdpjocglfephaaDoorRefBef
import Derived.Test.YtkdpjocglfephaaDoorBase
import Derived.Test.YtkdpjocglfephaaDoorCell
import Derived.Test.YtkdpjocglfephaaDoorAggB
import Derived.Test.YtkdpjocglfephaaDoorTab
import Derived.Test.YtkdpjocglfephaaDoorAggS
import Derived.Test.YtkdpjocglfephaaDoorRefSum
import Derived.Test.YtkdpjocglfephaaDoorRefOf
import Derived.Laws.Externs
import Derived.Shelf.SlSortCmp.QuietGrown
import Derived.BigQuiet
import Derived.Test.YtkdpjocglfephaaDoorInsl
import Derived.WalkKit
import Derived.Laws.OwnMore
import Derived.Laws.BytesArg
import Derived.Laws.Rows
import Derived.Deep.AppendLies
import Derived.Deep.Draws
import Derived.Test.YtkdpjocglfephaaDoorChecked
import Derived.Deep.OwnRows
import Derived.Lib.Hide
import Derived.Deep.Quiet
import Derived.Laws.AppendOwnNone
import Derived.Lib.Strings
import Derived.Outline
import Derived.WalkLawsBesides
import Derived.WalkSpells
import Derived.PlainAid
import Derived.Deep.QuietTactic
import Derived.RegionTactic
import Derived.BigRegion
import Derived.Handy
import Derived.Laws.BitsAllLaws
import Derived.Deep.RegionWith
import Derived.Lib.AppendStr
import Derived.Deep.RegionLaw
import Derived.Maps.AppendAt
import Derived.OpenShut
import Derived.WideShapes
import Derived.ChangeArms
import Derived.Deep.Slices
import Derived.Sort.Grow
import Derived.OrdersHeld
import Derived.LaidEql
import Derived.Stop.Asserts
import Derived.RowKitTokens
import Derived.Laws.BitsLemmas
import Derived.Laws.Bits64
import Derived.WalkSmall
import Derived.Stop.IfaceNil
import Derived.Lib.Bytealg
import Derived.Deep.SlicePairs
import Derived.Test.YtkdpjocglfephaaDoorShelf
import Derived.Deep.RegionHeld3
import Derived.Deep.CutBlock
import Derived.Deep.CutRange
import Derived.Sort.LotA
/- Group's groups of rows: what its parts come to. -/




namespace Go.Proofs.YtkdpjocglfephaaDoor
open Go.RowKit
set_option linter.unusedVariables false

theorem rowAt_cell (cols : List (List Val3)) (c : Int) (p : Nat) (h : 0 ≤ c ∧ c < (cols.length : Int)) : (rowAt cols p).getD c.toNat z3 = cellAt cols c p := by
  unfold rowAt cellAt
  have hc : c.toNat < cols.length := by omega
  have e1 : (cols.getD c.toNat []) = cols[c.toNat] := by rw [List.getD_eq_getElem?_getD, List.getElem?_eq_getElem hc]; rfl
  rw [e1, List.getD_eq_getElem?_getD, List.getElem?_map, List.getElem?_eq_getElem hc]; rfl
theorem one_of {cols : List (List Val3)} {ps : List Nat} {op at_ : Int} (h : at_ < (cols.length : Int)) : oneE (ps.map (rowAt cols)) op at_ = ofA cols ps op at_ := by
  unfold oneE ofA
  by_cases hn : at_ < 0
  · rw [if_pos hn, if_pos hn, List.length_map]
  · rw [if_neg hn, if_neg hn]
    congr 1
    unfold rpickC pickN
    rw [List.map_map]
    congr 1
    refine List.map_congr_left fun p _ => ?_
    show (rowAt cols p).getD at_.toNat z3 = _
    rw [rowAt_cell cols at_ p ⟨by omega, h⟩]; rfl
/-- The p-th row. -/
def rowOf (rs : List SlV) (p : Nat) : SlV := rs.getD p default
theorem rowOf_get {rs : List SlV} {p : Nat} (h : p < rs.length) : rowOf rs p = rs[p] := by
  unfold rowOf
  rw [List.getD_eq_getElem?_getD, List.getElem?_eq_getElem h]; rfl
theorem rowOf_l {rs : List SlV} {cols : List (List Val3)} {p : Nat} (hrs : rs.map (·.l) = rowsC cols) (h : p < rs.length) : (rowOf rs p).l = rowAt cols p := by
  rw [rowOf_get h]
  have hl : rs.length = heightC cols := by
    have := congrArg List.length hrs
    rw [List.length_map] at this
    rw [this]
    unfold rowsC
    rw [List.length_map, List.length_range]
  have h2 : (rs.map (·.l))[p]? = (rowsC cols)[p]? := by rw [hrs]
  unfold rowsC at h2
  rw [List.getElem?_map, List.getElem?_map, List.getElem?_eq_getElem h, List.getElem?_eq_getElem (by rw [List.length_range]; omega), List.getElem_range] at h2
  exact Option.some.inj h2
/-- Groups of places as groups of rows. -/
def grpsOf (rs : List SlV) (R : List (List Nat)) : List (List SlV) := R.map fun g => g.map (rowOf rs)
theorem grpsOf_len (rs : List SlV) (R : List (List Nat)) : (grpsOf rs R).length = R.length := List.length_map ..
theorem grpsOf_last (rs : List SlV) (R : List (List Nat)) (k : Nat) : (grpsOf rs R).getD k [] = (R.getD k []).map (rowOf rs) := by
  unfold grpsOf
  rw [List.getD_eq_getElem?_getD, List.getD_eq_getElem?_getD, List.getElem?_map]
  cases R[k]? <;> rfl
theorem grpsOf_new (rs : List SlV) (R : List (List Nat)) (p : Nat) : grpsOf rs (R ++ [[p]]) = grpsOf rs R ++ [[rowOf rs p]] := by
  unfold grpsOf; rw [List.map_append]; rfl
theorem grpsOf_old (rs : List SlV) (R : List (List Nat)) (p : Nat) : grpsOf rs (addLast R p) = addQ (grpsOf rs R) (rowOf rs p) := by
  unfold addQ
  rw [grpsOf_len, grpsOf_last]
  unfold addLast grpsOf
  rw [List.map_set, List.map_append]; rfl
theorem grpsOf_get (rs : List SlV) (R : List (List Nat)) (k : Nat) (h : k < R.length) (h' : k < (grpsOf rs R).length) : (grpsOf rs R)[k] = R[k].map (rowOf rs) := List.getElem_map ..
/-- A group read. -/
theorem grp_rows {w : World} {A B : Option Addr} {rs : List SlV} {ps : List Nat} (h : RowsAt w A rs) (hp : ∀ p ∈ ps, p < rs.length) (hb : Has w B (rvs (ps.map (rowOf rs)))) : RowsAt w B (ps.map (rowOf rs)) := by
  refine ⟨hb, fun s hs => ?_⟩
  obtain ⟨p, hp1, rfl⟩ := List.mem_map.1 hs
  rw [rowOf_get (hp p hp1)]
  exact h.2 _ (List.getElem_mem _)
/-- What Group gives. -/
def GroupP (cols : List (List Val3)) (bys : List Int) (aggs : List (Int × Int)) (W : Int) (w : World) (e : Ending) (w' : World) : Prop :=
  (¬ RunOk W bys aggs ∧ e = .returned (.tuple #[.slice none 0 0, .int .i64 1]) ∧ Later w w') ∨
  (RunOk W bys aggs ∧ ∃ R, GroupsOf cols bys (heightC cols) R ∧
    ((∃ (A : Option Addr) (c : Nat) (rs : List SlV), e = .returned (.tuple #[.slice A rs.length c, .int .i64 0]) ∧ runE cols bys aggs R = .ok (rs.map (·.l)) ∧ RowsAt w' A rs ∧ rs.length ≤ c ∧ c ≤ 9223372036854775807 ∧ Later w w') ∨
     (∃ n, runE cols bys aggs R = .error n ∧ (n = 4 ∨ n = 5) ∧ e = .returned (.tuple #[.slice none 0 0, .int .i64 n]) ∧ Later w w')))
/-- Where the keys' loop stands. -/
def KyI (bys : List Int) (w : World) (kv iv : Value) (wr : World) : Prop :=
  ∃ (k : Nat) (K : Option Addr) (kc : Nat), kv = .slice K k kc ∧ iv = .int .i64 k ∧ k ≤ bys.length ∧ wr.ownsRow w.heap.size 105 2 (.slice K k kc) k (fkey (bys.take k)) ∧ (K = none → kc = 0) ∧ Later w wr
theorem KyI.mk {bys : List Int} {w wr : World} (y : Int) (k n : Nat) (K : Option Addr) (kc : Nat) (hy : y = (k : Int)) (hn : n = k) (hk : k ≤ bys.length) (ho : wr.ownsRow w.heap.size 105 2 (.slice K n kc) n (fkey (bys.take k))) (hnil : K = none → kc = 0) (L : Later w wr) : KyI bys w (.slice K n kc) (.int .i64 y) wr := by
  subst hy hn; exact ⟨n, K, kc, rfl, rfl, hk, ho, hnil, L⟩
theorem info_key : (Tryd.prog.info? 105).map (fun i => (i.zero, i.size, i.bytes)) = some (some (.agg #[.int .i64 0, .bool false]), 2, 16) := by kernel_rfl
/-- Where the groups' loop stands. -/
def GrI (cf : Nat → Nat → Int) (S : List Nat) (rs : List SlV) (w : World) (lv iv : Value) (wr : World) : Prop :=
  ∃ (k : Nat) (T : Option Addr) (n tc : Nat), lv = .slice T n tc ∧ iv = .int .i64 k ∧ k ≤ S.length ∧ QS w.heap.size wr T n tc (grpsOf rs (runsF cf S k)) ∧ Later w wr
theorem GrI.mk {cf : Nat → Nat → Int} {S : List Nat} {rs : List SlV} {w wr : World} (y : Int) (k : Nat) (T : Option Addr) (n tc : Nat) (hy : y = (k : Int)) (hk : k ≤ S.length) (hq : QS w.heap.size wr T n tc (grpsOf rs (runsF cf S k))) (L : Later w wr) : GrI cf S rs w (.slice T n tc) (.int .i64 y) wr := by
  subst hy; exact ⟨k, T, n, tc, rfl, rfl, hk, hq, L⟩
theorem runsF_new {cf : Nat → Nat → Int} {S : List Nat} {k : Nat} (h : k = 0 ∨ cf (((runsF cf S k).getD ((runsF cf S k).length - 1) []).getD 0 0) (S.getD k 0) ≠ 0) : runsF cf S (k + 1) = runsF cf S k ++ [[S.getD k 0]] := by
  show (if _ then _ else _) = _
  rw [if_pos h]
theorem runsF_old {cf : Nat → Nat → Int} {S : List Nat} {k : Nat} (h : ¬ (k = 0 ∨ cf (((runsF cf S k).getD ((runsF cf S k).length - 1) []).getD 0 0) (S.getD k 0) ≠ 0)) : runsF cf S (k + 1) = addLast (runsF cf S k) (S.getD k 0) := by
  show (if _ then _ else _) = _
  rw [if_neg h]
theorem QS.last1 {base : Nat} {w : World} {A : Option Addr} {m c : Nat} {R : List (List SlV)} (h : QS base w A (m + 1) c R) :
    ∃ tb La Ln Lc, A = some ⟨tb, 0, none⟩ ∧ Ln = (R.getD (R.length - 1) []).length ∧ w.cell? ⟨tb, m, none⟩ = some (.slice La Ln Lc) ∧ w.frozen? ⟨tb, m, none⟩ = false ∧ base ≤ tb ∧ m + 1 ≤ c ∧ w.ownsRow base 56 1 (.slice La Ln Lc) Ln (rvs (R.getD (R.length - 1) [])) ∧
      ∀ w1 w2 A' c' (p : SlV), Later w w1 → w2.ownsRow base 56 1 (.slice A' (Ln + 1) c') (Ln + 1) (rvs (R.getD (R.length - 1) []) ++ [p.v]) → w1.grownBy w2 (Value.slice La Ln Lc).ownBlock →
        ((Value.slice A' (Ln + 1) c').ownBlock = (Value.slice La Ln Lc).ownBlock ∨ (Value.slice A' (Ln + 1) c').ownBlock = some w1.heap.size) → (A' = none → c' = 0) →
        w2.cell? ⟨tb, m, none⟩ = some (.slice La Ln Lc) ∧ w2.frozen? ⟨tb, m, none⟩ = false ∧ QS base (w2.setCell ⟨tb, m, none⟩ (.slice A' (Ln + 1) c')) A (m + 1) c (addQ R p) := by
  have := h.last (by omega)
  rwa [Nat.add_sub_cancel] at this
theorem oneE_err {rows : List (List Val3)} {op at_ : Int} {n : Int} (h : oneE rows op at_ = .error n) : n = 4 ∨ n = 5 := by
  unfold oneE ofV sumV at h
  repeat' split at h
  all_goals first | (cases h; done) | (injection h with h; subst h; first | (exact .inl rfl) | (exact .inr rfl))
/-- What one gives is settled. -/
theorem oneE_konst (o : Except Int Val3) (ho : ∀ n, o = .error n → n = 4 ∨ n = 5) : ∃ (x1 x2 : Int) (x3 : ByteArray) (en : Int), ((en = 0 ∧ o = .ok (x1, x2, x3)) ∨ (o = .error en ∧ (en = 4 ∨ en = 5))) ∧
    ∀ w e w', ErrE o w e w' → e = .returned (.tuple #[.agg #[.int .i64 x1, .int .i64 x2, .string x3], .int .i64 en]) ∧ Later w w' := by
  cases o with
  | ok v =>
    refine ⟨v.1, v.2.1, v.2.2, 0, .inl ⟨rfl, rfl⟩, ?_⟩
    rintro w e w' ⟨⟨v', hv, rfl⟩ | ⟨n, hn, _⟩, l⟩
    · injection hv with hv; subst hv; exact ⟨rfl, l⟩
    · cases hn
  | error n =>
    refine ⟨0, 0, ⟨#[]⟩, n, .inr ⟨rfl, ho n rfl⟩, ?_⟩
    rintro w e w' ⟨⟨v', hv, _⟩ | ⟨n', hn, _, rfl⟩, l⟩
    · cases hv
    · injection hn with hn; subst hn; exact ⟨rfl, l⟩
end Go.Proofs.YtkdpjocglfephaaDoor

/- The document's Count, Rows. -/

namespace Go.Proofs.YtkdpjocglfephaaDoor
open Go.RowKit
set_option linter.unusedVariables false

/-- Where Count's loop stands. -/
def HgJ (ss : List SlV) (w : World) (nv iv : Value) (wr : World) : Prop :=
  ∃ k n : Nat, nv = .int .i64 n ∧ iv = .int .i64 k ∧ k ≤ ss.length ∧ n = heightC (colsOf (ss.take k)) ∧ wr = w
theorem HgJ.mk {ss : List SlV} {w wr : World} (x y : Int) (k n : Nat) (hx : x = (n : Int)) (hy : y = (k : Int)) (hk : k ≤ ss.length) (h : n = heightC (colsOf (ss.take k))) (hw : wr = w) : HgJ ss w (.int .i64 x) (.int .i64 y) wr := by
  subst hx hy; exact ⟨k, n, rfl, rfl, hk, h, hw⟩
theorem heightC_succ (ss : List SlV) (k : Nat) (hk : k < ss.length) : heightC (colsOf (ss.take (k + 1))) = if k = 0 then ss[k].l.length else min (heightC (colsOf (ss.take k))) ss[k].l.length := by
  rcases ss with _ | ⟨s, r⟩
  · simp at hk
  · rcases Nat.eq_zero_or_pos k with rfl | hp
    · simp [colsOf, heightC]
    · rw [if_neg (by omega), List.take_succ_eq_append_getElem hk]
      unfold colsOf
      rw [List.map_append]
      obtain ⟨k', rfl⟩ : ∃ k', k = k' + 1 := ⟨k - 1, by omega⟩
      rw [List.take_succ_cons, List.map_cons, List.map_singleton, heightC_snoc]
set_option maxRecDepth 100000 in
theorem refCount_any (A : Option Addr) (n c : Nat) (ss : List SlV) (w : World) (hn : n = ss.length) (hl : n ≤ 100000) (hr : RowsAt w A ss) (hb : ∀ s ∈ ss, s.l.length ≤ 100000) :
    Calls Tryd.prog 61 #[.slice A n c] w fun e w' => e = .returned (.int .i64 (heightC (colsOf ss))) ∧ w = w' := by
  have HN := Lib.hid hn
  have HR := Lib.hid hr
  have HB := Lib.hid hb
  have HI0 := Lib.hid (HgJ.mk (ss := ss) (w := w) (wr := w) 0 0 0 0 rfl rfl (Nat.zero_le _) (by simp [colsOf, heightC]) rfl)
  clear hn hr hb
  go_enter Tryd.func61, Tryd.ntmps61
  go_wp2_with fail
  go_loopw [3, 4] (fun nv iv wr => HgJ ss w nv iv wr) (fun _ i _ => n - (intOf i).toNat)
  case atStart => exact HI0.out
  case round =>
    obtain ⟨k, m, rfl, rfl, hk, hm, rfl⟩ := hrel
    by_cases hlt : k < n
    · have hkl : k < ss.length := by have := HN.out; omega
      obtain ⟨b', off', hA, ck, _⟩ := HR.out.get k hkl
      subst hA
      have hlk := HB.out _ (List.getElem_mem hkl)
      have hmb : m ≤ 100000 := by
        rw [hm]
        rcases Nat.eq_zero_or_pos k with rfl | hp
        · simp [colsOf, heightC]
        · have hmem : (ss[0]'(by omega)).l ∈ colsOf (ss.take k) := by
            unfold colsOf
            refine List.mem_map.2 ⟨ss[0]'(by omega), ?_, rfl⟩
            rw [List.mem_take_iff_getElem]
            exact ⟨0, by omega, rfl⟩
          exact Nat.le_trans (heightC_le hmem) (HB.out _ (List.getElem_mem (by omega)))
      have HM := Lib.hid (heightC_succ ss k hkl)
      rw [← hm] at HM
      clear hm
      generalize ss[k].a = ak at ck
      generalize ss[k].c = cck at ck
      generalize ss[k].l.length = lk at ck HM hlk
      by_cases h0 : k = 0
      · have HM2 := Lib.hid (show lk = heightC (colsOf (ss.take (k + 1))) by rw [HM.out, if_pos h0])
        clear HM
        subst h0
        rw [Nat.add_zero] at ck
        go_wp2_with fail
        all_goals go_roundw
        all_goals first
          | exact HgJ.mk _ _ (0 + 1) lk (by omega) (by omega) hkl HM2.out rfl
          | (simp [intOf]; omega)
      · have hk0 : ((k : Int) == 0) = false := by rw [beq_eq_false_iff_ne]; omega
        by_cases hmin : lk < m
        · have hmi : (lk : Int) < (m : Int) := by omega
          have HM2 := Lib.hid (show lk = heightC (colsOf (ss.take (k + 1))) by rw [HM.out, if_neg h0]; omega)
          clear HM
          go_wp2_with fail
          all_goals go_roundw
          all_goals first
            | exact HgJ.mk _ _ (k + 1) lk (by omega) (by omega) hkl HM2.out rfl
            | (simp [intOf]; omega)
        · have hmi : ¬ (lk : Int) < (m : Int) := by omega
          have hmi2 : (m : Int) ≤ (lk : Int) := by omega
          have HM2 := Lib.hid (show m = heightC (colsOf (ss.take (k + 1))) by rw [HM.out, if_neg h0]; omega)
          clear HM
          go_wp2_with fail
          all_goals go_roundw
          all_goals first
            | exact HgJ.mk _ _ (k + 1) m (by omega) (by omega) hkl HM2.out rfl
            | (simp [intOf]; omega)
    · have HE := Lib.hid (show m = heightC (colsOf ss) by
        have : k = ss.length := by have := HN.out; omega
        subst this
        rw [List.take_length] at hm
        exact hm)
      clear hm
      go_wp2_with fail
      go_ret
      rw [← HE.out]
      exact ⟨rfl, rfl⟩

set_option maxRecDepth 100000 in
set_option maxHeartbeats 4000000 in
theorem refRows_any (A : Option Addr) (n c : Nat) (ss : List SlV) (w : World) (hn : n = ss.length) (hl : n ≤ 1000) (hr : RowsAt w A ss) (hb : ∀ s ∈ ss, s.l.length ≤ 1000) :
    Calls Tryd.prog 39 #[.slice A n c] w (RowsP (rowsC (colsOf ss)) w) := by
  have HH := Lib.hid (fun (W : World) (l : Later w W) => refCount_any A n c ss W hn (by omega) (hr.later l) (fun s hs => by have := hb s hs; omega))
  have hhb : heightC (colsOf ss) ≤ 1000 := by
    rcases ss with _ | ⟨s, r⟩
    · simp [colsOf, heightC]
    · exact Nat.le_trans (heightC_le (x := s.l) (by simp [colsOf])) (hb s (by simp))
  have HCL := Lib.hid (show n = (colsOf ss).length by rw [hn]; simp [colsOf])
  have HN := Lib.hid hn
  have HR := Lib.hid hr
  have HB := Lib.hid hb
  have hlen : ∀ k (h : k < ss.length), heightC (colsOf ss) ≤ ss[k].l.length := fun k h => heightC_le (List.mem_map.2 ⟨ss[k], List.getElem_mem h, rfl⟩)
  have HLEN := Lib.hid hlen
  have HGET := Lib.hid (fun (i j : Nat) (h : j < ss.length) => show (rowAt (colsOf ss) i)[j]? = some (ss[j].l.getD i (0, 0, ⟨#[]⟩)) by
    unfold rowAt colsOf
    rw [List.getElem?_map, List.getElem?_map, List.getElem?_eq_getElem h]; rfl)
  obtain ⟨cols, hcols⟩ : ∃ x, colsOf ss = x := ⟨_, rfl⟩
  simp only [hcols] at HH hhb HCL HLEN HGET
  rw [hcols]
  obtain ⟨ht, hht⟩ : ∃ x, heightC cols = x := ⟨_, rfl⟩
  rw [hht] at HH hhb HLEN
  have HHT := Lib.hid hht
  have HI0 := Lib.hid (RoI.mk (cols := cols) (w := w) (wr := w) 0 0 none 0 0 [] rfl (Nat.zero_le _) rfl (RowsOn.nil_ _ _) (Later.refl _))
  clear hn hr hb hlen hcols hht
  go_enter Tryd.func39, Tryd.ntmps39
  go_wp2_with fail
  go_loopw [3, 4] (fun rv iv wr => RoI cols w rv iv wr) (fun _ i _ => ht - (intOf i).toNat)
  case atStart => exact HI0.out
  case round =>
    obtain ⟨k, V, vn, vc, rs, rfl, rfl, hk, hrs, hon, lat⟩ := hrel
    have HRS := Lib.hid hrs
    have HON := Lib.hid hon
    have HLAT := Lib.hid lat
    clear HI0 hrs hon
    have hvn : vn ≤ 1000 := by
      have h1 := HON.out.1
      have h2 := congrArg List.length HRS.out
      rw [List.length_map, List.length_map, List.length_range] at h2
      have := HHT.out
      omega
    have HHK := Lib.hid (HH.out wr lat)
    by_cases hlt : k < ht
    · have hkt : (k : Int) < (ht : Int) := by omega
      obtain ⟨ws, hws⟩ : ∃ x, x = wr := ⟨_, rfl⟩
      subst hws
      have HJ0 := Lib.hid (RiI.mk (cols := cols) (i := k) (ws := ws) (wr := ws) 0 0 none 0 0 rfl (Nat.zero_le _) rfl (by rw [List.take_zero]; exact ownG_nil _ _ _ _) (fun _ => rfl) (Later.refl _))
      clear lat
      go_wp2_with fail
      refine HHK.out.mono ?_
      rintro e wX ⟨rfl, rfl⟩
      go_wp2_with fail
      go_loopw [5, 6] (fun rv jv wr => RiI cols k ws rv jv wr) (fun _ j _ => n - (intOf j).toNat)
      case atStart => exact HJ0.out
      case round =>
        obtain ⟨j, R, rn, rc, rfl, rfl, hj, hrn, hown, hnil, lat2⟩ := hrel
        have HOWN := Lib.hid hown
        have HLAT2 := Lib.hid lat2
        have HNIL := Lib.hid hnil
        have HRNJ := Lib.hid hrn
        have hrnb : rn ≤ 1000 := by have := HCL.out; omega
        clear hown hnil hrn
        by_cases hlj : j < n
        · have hjs : j < ss.length := by have := HN.out; omega
          obtain ⟨b, off, hA, ck, hhas, _, _, _⟩ := (HR.out.later (HLAT.out.trans lat2)).get j hjs
          subst hA
          have hle := HLEN.out j hjs
          obtain ⟨cb, coff, hCA, v0, v1, v2⟩ := hhas.val3 k (by omega)
          have hgd := HGET.out k j hjs
          rw [List.getD_eq_getElem?_getD, List.getElem?_eq_getElem (show k < ss[j].l.length by omega), Option.getD_some] at hgd
          have hjc : j < cols.length := by have := HCL.out; omega
          have HT := Lib.hid (show (rowAt cols k).take (j + 1) = (rowAt cols k).take j ++ [ss[j].l[k]] by
            rw [List.take_add_one, hgd]; rfl)
          generalize ss[j].l[k] = x at v0 v1 v2 HT
          obtain ⟨t, i, s⟩ := x
          dsimp only at v0 v1 v2
          rw [hCA] at ck
          have hkl : (k : Int) < (ss[j].l.length : Int) := by omega
          have hkl2 : k < ss[j].l.length := by omega
          generalize ss[j].c = cc at ck
          generalize ss[j].l.length = ln at ck hkl hkl2
          have HBK := Lib.hid (fun (wz : World) => Blk.new wz #[.int .i64 t, .int .i64 i, .string s] 26 wz.heap.size rfl)
          have HOA := Lib.hid (fun (o : Obj) => own_later HOWN.out (Later.new wr o))
          clear hgd hle hhas hCA HLEN
          have HSZ := Lib.hid (show ws.heap.size ≤ wr.heap.size from HLAT2.out.size)
          go_wp2_with (at_builtin; refine wpList_append_g _ rfl (.tmp 19) (.tmp 27) 56 rfl ws.heap.size 26 _ 3 32 Tryd.underlying56 info_v rfl (by decide) _ rn _ rfl (HOA.out _) _ 1 1 (fl [(t, i, s)]) rfl (HBK.out wr).has rfl (by intro h; cases h) (fl_one _) (by unfold maxLen; omega) (by omega) (by have := HSZ.out; simp; omega) ?_; rintro A' c' wq hO _ hbel hn2; have HO2 := Lib.hid hO; have HN2 := Lib.hid hn2; have HL2 := Lib.hid (Later.of ((HLAT2.out.alloc _).below.trans hbel)); clear hO hn2 hbel)
          go_roundw
          all_goals first
            | exact RiI.mk _ (j + 1) _ _ _ (by omega) (by omega) (by have := HRNJ.out; omega) (by rw [HT.out, fl_append]; exact HO2.out) HN2.out HL2.out
            | (simp [intOf]; omega)
        · have hjn : j = cols.length := by have := HCL.out; omega
          have HOK := Lib.hid (show (⟨R, rc, rowAt cols k⟩ : SlV).okX (Value.slice V vn vc).ownBlock wr by
            have ho := HOWN.out
            rw [List.take_of_length_le (by rw [rowAt_len]; omega)] at ho
            refine SlV.okX.own ho ?_ HNIL.out fun g hg => (HON.out.2.1.lt g hg).2
            have := HRNJ.out
            rw [rowAt_len]; omega)
          have HRL := Lib.hid (show (⟨R, rc, rowAt cols k⟩ : SlV).v = .slice R rn rc by
            rw [SlV.v_eq]
            have := HRNJ.out
            rw [rowAt_len]
            congr 1
            omega)
          have HON2 := Lib.hid (HON.out.later lat2)
          have HLW := Lib.hid (HLAT.out.trans lat2)
          have HBK := Lib.hid (fun (wz : World) => Blk.new wz #[.slice R rn rc] 56 wz.heap.size rfl)
          have HOA := Lib.hid (fun (o : Obj) => HON2.out.later (Later.new wr o))
          have HOKA := Lib.hid (fun (o : Obj) => HOK.out.later (Later.new wr o))
          have HSZ := Lib.hid (show w.heap.size ≤ wr.heap.size from HLW.out.size)
          clear hjn lat2
          go_wp2_with (at_builtin; refine wpList_append_x _ rfl (.tmp 29) (.tmp 31) 67 rfl w.heap.size 56 _ 1 24 Tryd.underlying67 info_row rfl (by decide) _ vn _ rfl (HOA.out _).2.1 _ 0 1 1 [.slice R rn rc] rfl (HBK.out wr).has rfl (by intro u hu; rw [List.mem_singleton] at hu; subst hu; rfl) (by unfold maxLen; omega) (by omega) (by have := HSZ.out; simp; omega) ?_; rintro A' c' wq hO hgr hbel hat hn2; have HO2 := Lib.hid (RowsOn.more (s := ⟨R, rc, rowAt cols k⟩) (HOA.out _) (HOKA.out _) (by rw [HRL.out]; exact hO) hgr hat hn2); have HL2 := Lib.hid (Later.of ((HLW.out.alloc _).below.trans hbel)); clear hO hn2 hbel hgr hat)
          go_roundw
          all_goals first
            | exact RoI.mk _ (k + 1) _ _ _ _ (by omega) (by have := HHT.out; omega) (by rw [List.map_append, HRS.out, List.range_succ, List.map_append]; rfl) HO2.out HL2.out
            | (simp [intOf]; omega)
    · have HF := Lib.hid (show rs.map (·.l) = rowsC cols by
        rw [HRS.out]; unfold rowsC
        rw [show k = heightC cols by have := HHT.out; omega])
      have hkt : ¬ (k : Int) < (ht : Int) := by omega
      clear lat
      go_wp2_with fail
      refine HHK.out.mono ?_
      rintro e wX ⟨rfl, rfl⟩
      go_wp2_with fail
      go_ret
      have hat := HON.out.at_
      exact ⟨V, vc, rs, by rw [HON.out.1]; rfl, HF.out, hat.1, by rw [← HON.out.1]; exact hat.2.1, hat.2.2, HON.out.2.2.2, HLAT.out⟩
end Go.Proofs.YtkdpjocglfephaaDoor
