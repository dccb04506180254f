
import Derived.Test.YtkdpjocglfephaaDoorBase
import Derived.Test.YtkdpjocglfephaaDoorZoneM
import Derived.WalkKit
import Derived.Laws.OwnMore
import Derived.Laws.BytesArg
import Derived.Laws.Rows
import Derived.Deep.AppendLies
import Derived.Deep.Draws
import Derived.Test.YtkdpjocglfephaaDoorChecked
import Derived.Deep.OwnRows
import Derived.Lib.Hide
import Derived.Deep.Quiet
import Derived.Laws.AppendOwnNone
import Derived.Lib.Strings
import Derived.Outline
import Derived.WalkLawsBesides
import Derived.WalkSpells
import Derived.PlainAid
import Derived.Deep.QuietTactic
import Derived.BigQuiet
import Derived.RegionTactic
import Derived.BigRegion
import Derived.Handy
import Derived.Laws.BitsAllLaws
import Derived.Deep.RegionWith
import Derived.Lib.AppendStr
import Derived.Deep.RegionLaw
import Derived.Maps.AppendAt
import Derived.OpenShut
import Derived.WideShapes
import Derived.ChangeArms
import Derived.Deep.Slices
import Derived.Sort.Grow
import Derived.LaidEql
import Derived.Stop.Asserts
import Derived.RowKitTokens
import Derived.Laws.BitsLemmas
import Derived.Laws.Bits64
import Derived.WalkSmall
import Derived.Stop.IfaceNil
import Derived.Lib.Bytealg
import Derived.Deep.SlicePairs
import Derived.Deep.RegionHeld3
import Derived.Test.YtkdpjocglfephaaDoorShelf
import Derived.Shelf.Abstract
/- The walks of package batch: height, Rows. -/

namespace Go.Proofs.YtkdpjocglfephaaDoor
open Go.RowKit
set_option linter.unusedVariables false

/-- How many rows columns have: as many as the shortest. -/
def heightC : List (List Val3) → Nat
  | [] => 0
  | c :: r => r.foldl (fun n x => min n x.length) c.length
theorem heightC_snoc (a : List Val3) (r : List (List Val3)) (x : List Val3) : heightC ((a :: r) ++ [x]) = min (heightC (a :: r)) x.length := by
  show (r ++ [x]).foldl _ _ = _
  rw [List.foldl_append]; rfl
theorem heightC_le : ∀ {l : List (List Val3)} {x : List Val3}, x ∈ l → heightC l ≤ x.length := by
  have key : ∀ (r : List (List Val3)) (n : Nat), r.foldl (fun n x => min n x.length) n ≤ n ∧ ∀ x ∈ r, r.foldl (fun n x => min n x.length) n ≤ x.length := by
    intro r
    induction r with
    | nil => intro n; exact ⟨Nat.le_refl _, fun x hx => by cases hx⟩
    | cons c r ih =>
      intro n
      have := ih (min n c.length)
      refine ⟨Nat.le_trans this.1 (Nat.min_le_left _ _), fun x hx => ?_⟩
      rcases List.mem_cons.1 hx with rfl | hx
      · exact Nat.le_trans this.1 (Nat.min_le_right _ _)
      · exact this.2 x hx
  intro l x hx
  cases l with
  | nil => cases hx
  | cons c r =>
    rcases List.mem_cons.1 hx with rfl | hx
    · exact (key r _).1
    · exact (key r _).2 x hx
/-- The i-th row of columns; all of them. -/
def rowAt (cols : List (List Val3)) (i : Nat) : List Val3 := cols.map fun c => c.getD i (0, 0, ⟨#[]⟩)
def rowsC (cols : List (List Val3)) : List (List Val3) := (List.range (heightC cols)).map (rowAt cols)
def colsOf (ss : List SlV) : List (List Val3) := ss.map (·.l)

/-- Where height's loop stands. -/
def HgI (ss : List SlV) (w : World) (nv iv : Value) (wr : World) : Prop :=
  ∃ k n : Nat, nv = .int .i64 n ∧ iv = .int .i64 k ∧ k ≤ ss.length ∧ n = heightC (colsOf (ss.take (max k 1))) ∧ wr = w
theorem HgI.mk {ss : List SlV} {w wr : World} (x y : Int) (k n : Nat) (hx : x = (n : Int)) (hy : y = (k : Int)) (hk : k ≤ ss.length) (h : n = heightC (colsOf (ss.take (max k 1)))) (hw : wr = w) : HgI ss w (.int .i64 x) (.int .i64 y) wr := by
  subst hx hy; exact ⟨k, n, rfl, rfl, hk, h, hw⟩
set_option maxRecDepth 100000 in
theorem height_any (A : Option Addr) (n c : Nat) (ss : List SlV) (w : World) (hn : n = ss.length) (hl : n ≤ 100000) (hr : RowsAt w A ss) (hb : ∀ s ∈ ss, s.l.length ≤ 100000) :
    Calls Tryd.prog 53 #[.slice A n c] w fun e w' => e = .returned (.int .i64 (heightC (colsOf ss))) ∧ w = w' := by
  have HN := Lib.hid hn
  clear hn
  by_cases h0 : n = 0
  · have hs : ss = [] := List.eq_nil_of_length_eq_zero (by have := HN.out; omega)
    subst h0 hs
    go_enter Tryd.func53, Tryd.ntmps53
    go_wp2_with fail
    go_ret
    exact ⟨rfl, rfl⟩
  · have h1 : 0 < ss.length := by have := HN.out; omega
    obtain ⟨b, off, rfl, c0, _⟩ := hr.get 0 h1
    have hn0 : ((n : Int) == 0) = false := by rw [beq_eq_false_iff_ne]; omega
    have hn1 : (0 : Int) < (n : Int) := by omega
    have HR := Lib.hid hr
    have HB := Lib.hid hb
    have HI0 := Lib.hid (HgI.mk (ss := ss) (w := w) (wr := w) (ss[0].l.length : Int) 0 0 ss[0].l.length rfl rfl (Nat.zero_le _) (by
      rcases ss with _ | ⟨s, r⟩
      · simp at h1
      · simp [colsOf, heightC]) rfl)
    rw [Nat.add_zero] at c0
    generalize ss[0].a = a0 at c0
    generalize ss[0].c = cc0 at c0
    generalize ss[0].l.length = l0 at c0 HI0
    clear hr hb
    go_enter Tryd.func53, Tryd.ntmps53
    go_wp2_with fail
    go_loopw [3, 15] (fun nv iv wr => HgI ss w nv iv wr) (fun _ i _ => n - (intOf i).toNat)
    case atStart => exact HI0.out
    case round =>
      obtain ⟨k, m, rfl, rfl, hk, hm, rfl⟩ := hrel
      by_cases hlt : k < n
      · have hkl : k < ss.length := by have := HN.out; omega
        obtain ⟨b', off', hA, ck, _⟩ := HR.out.get k hkl
        injection hA with hA
        injection hA with h1' h2'
        subst h1' h2'
        have hlk := HB.out _ (List.getElem_mem hkl)
        have hmb : m ≤ 100000 := by
          rw [hm]
          have hmem : (ss[0]'(by omega)).l ∈ colsOf (ss.take (max k 1)) := by
            unfold colsOf
            refine List.mem_map.2 ⟨ss[0]'(by omega), ?_, rfl⟩
            rw [List.mem_take_iff_getElem]
            exact ⟨0, by omega, rfl⟩
          exact Nat.le_trans (heightC_le hmem) (HB.out _ (List.getElem_mem (by omega)))
        have HM := Lib.hid (show min m ss[k].l.length = heightC (colsOf (ss.take (max (k + 1) 1))) by
          rw [show max (k + 1) 1 = k + 1 by omega]
          rcases ss with _ | ⟨s, r⟩
          · simp at hkl
          · rcases Nat.eq_zero_or_pos k with rfl | hp
            · have : m = s.l.length := by rw [hm]; simp [colsOf, heightC]
              rw [this]
              simp [colsOf, heightC]
            · rw [List.take_succ_eq_append_getElem hkl]
              unfold colsOf
              rw [List.map_append]
              rw [show max k 1 = k by omega] at hm
              obtain ⟨k', rfl⟩ : ∃ k', k = k' + 1 := ⟨k - 1, by omega⟩
              rw [List.take_succ_cons] at hm ⊢
              unfold colsOf at hm
              rw [List.map_cons] at hm
              rw [List.map_cons, List.map_singleton, heightC_snoc, ← hm])
        clear hm
        generalize ss[k].a = ak at ck
        generalize ss[k].c = cck at ck
        generalize ss[k].l.length = lk at ck HM hlk
        by_cases hmin : m ≤ lk
        · have hmi : (m : Int) ≤ (lk : Int) := by omega
          have HM2 := Lib.hid (show m = heightC (colsOf (ss.take (max (k + 1) 1))) by rw [← HM.out]; omega)
          clear HM
          go_wp2_with fail
          all_goals go_roundw
          all_goals first
            | exact HgI.mk _ _ (k + 1) m (by omega) (by omega) hkl HM2.out rfl
            | (simp [intOf]; omega)
        · have hmi : (lk : Int) < (m : Int) := by omega
          have HM2 := Lib.hid (show lk = heightC (colsOf (ss.take (max (k + 1) 1))) by rw [← HM.out]; omega)
          clear HM
          go_wp2_with fail
          all_goals go_roundw
          all_goals first
            | exact HgI.mk _ _ (k + 1) lk (by omega) (by omega) hkl HM2.out rfl
            | (simp [intOf]; omega)
      · have HE := Lib.hid (show m = heightC (colsOf ss) by
          have : k = ss.length := by have := HN.out; omega
          subst this
          rw [show max ss.length 1 = ss.length by omega, List.take_length] at hm
          exact hm)
        clear hm
        go_wp2_with fail
        go_ret
        rw [← HE.out]
        exact ⟨rfl, rfl⟩

/-- What Rows gives. -/
def RowsP (L : List (List Val3)) (w : World) (e : Ending) (w' : World) : Prop :=
  ∃ (A : Option Addr) (c : Nat) (rs : List SlV), e = .returned (.slice A rs.length c) ∧ rs.map (·.l) = L ∧ RowsAt w' A rs ∧ rs.length ≤ c ∧ c ≤ 9223372036854775807 ∧ (A = none → c = 0) ∧ Later w w'
/-- Where the outer loop stands: so many rows are made. -/
def RoI (cols : List (List Val3)) (w : World) (rv iv : Value) (wr : World) : Prop :=
  ∃ (k : Nat) (A : Option Addr) (n c : Nat) (rs : List SlV), rv = .slice A n c ∧ iv = .int .i64 k ∧ k ≤ heightC cols ∧ rs.map (·.l) = (List.range k).map (rowAt cols) ∧ RowsOn w.heap.size wr A n c rs ∧ Later w wr
theorem RoI.mk {cols : List (List Val3)} {w wr : World} (y : Int) (k : Nat) (A : Option Addr) (n c : Nat) (rs : List SlV) (hy : y = (k : Int)) (hk : k ≤ heightC cols) (h : rs.map (·.l) = (List.range k).map (rowAt cols)) (ho : RowsOn w.heap.size wr A n c rs) (L : Later w wr) : RoI cols w (.slice A n c) (.int .i64 y) wr := by
  subst hy; exact ⟨k, A, n, c, rs, rfl, rfl, hk, h, ho, L⟩
/-- Where the inner loop stands: so many columns are done. -/
def RiI (cols : List (List Val3)) (i : Nat) (ws : World) (rv jv : Value) (wr : World) : Prop :=
  ∃ (j : Nat) (R : Option Addr) (rn rc : Nat), rv = .slice R rn rc ∧ jv = .int .i64 j ∧ j ≤ cols.length ∧ rn = j ∧ wr.ownsRow ws.heap.size 26 3 (.slice R rn rc) rn (fl ((rowAt cols i).take j)) ∧ (R = none → rc = 0) ∧ Later ws wr
theorem RiI.mk {cols : List (List Val3)} {i : Nat} {ws wr : World} (y : Int) (j : Nat) (R : Option Addr) (rn rc : Nat) (hy : y = (j : Int)) (hj : j ≤ cols.length) (hrn : rn = j) (ho : wr.ownsRow ws.heap.size 26 3 (.slice R rn rc) rn (fl ((rowAt cols i).take j))) (hnil : R = none → rc = 0) (L : Later ws wr) : RiI cols i ws (.slice R rn rc) (.int .i64 y) wr := by
  subst hy; exact ⟨j, R, rn, rc, rfl, rfl, hj, hrn, ho, hnil, L⟩
theorem rowAt_len (cols : List (List Val3)) (i : Nat) : (rowAt cols i).length = cols.length := List.length_map _
set_option maxRecDepth 100000 in
set_option maxHeartbeats 4000000 in
theorem batchRows_any (A : Option Addr) (n c : Nat) (ss : List SlV) (w : World) (hn : n = ss.length) (hl : n ≤ 1000) (hr : RowsAt w A ss) (hb : ∀ s ∈ ss, s.l.length ≤ 1000) :
    Calls Tryd.prog 31 #[.slice A n c] w (RowsP (rowsC (colsOf ss)) w) := by
  have HH := Lib.hid (height_any A n c ss w hn (by omega) hr (fun s hs => by have := hb s hs; omega))
  have hhb : heightC (colsOf ss) ≤ 1000 := by
    rcases ss with _ | ⟨s, r⟩
    · simp [colsOf, heightC]
    · exact Nat.le_trans (heightC_le (x := s.l) (by simp [colsOf])) (hb s (by simp))
  have HCL := Lib.hid (show n = (colsOf ss).length by rw [hn]; simp [colsOf])
  have HN := Lib.hid hn
  have HR := Lib.hid hr
  have HB := Lib.hid hb
  have hlen : ∀ k (h : k < ss.length), heightC (colsOf ss) ≤ ss[k].l.length := fun k h => heightC_le (List.mem_map.2 ⟨ss[k], List.getElem_mem h, rfl⟩)
  have HLEN := Lib.hid hlen
  have HGET := Lib.hid (fun (i j : Nat) (h : j < ss.length) => show (rowAt (colsOf ss) i)[j]? = some (ss[j].l.getD i (0, 0, ⟨#[]⟩)) by
    unfold rowAt colsOf
    rw [List.getElem?_map, List.getElem?_map, List.getElem?_eq_getElem h]; rfl)
  obtain ⟨cols, hcols⟩ : ∃ x, colsOf ss = x := ⟨_, rfl⟩
  simp only [hcols] at HH hhb HCL HLEN HGET
  rw [hcols]
  obtain ⟨ht, hht⟩ : ∃ x, heightC cols = x := ⟨_, rfl⟩
  rw [hht] at HH hhb HLEN
  have HHT := Lib.hid hht
  have HI0 := Lib.hid (RoI.mk (cols := cols) (w := w) (wr := w) 0 0 none 0 0 [] rfl (Nat.zero_le _) rfl (RowsOn.nil_ _ _) (Later.refl _))
  clear hn hr hb hlen hcols hht
  go_enter Tryd.func31, Tryd.ntmps31
  go_wp2_with fail
  refine HH.out.mono ?_
  rintro e wX ⟨rfl, rfl⟩
  clear HH
  go_wp2_with fail
  go_loopw [3, 10] (fun rv iv wr => RoI cols w rv iv wr) (fun _ i _ => ht - (intOf i).toNat)
  case atStart => exact HI0.out
  case round =>
    obtain ⟨k, V, vn, vc, rs, rfl, rfl, hk, hrs, hon, lat⟩ := hrel
    have HRS := Lib.hid hrs
    have HON := Lib.hid hon
    have HLAT := Lib.hid lat
    clear HI0 hrs hon
    have hvn : vn ≤ 1000 := by
      have h1 := HON.out.1
      have h2 := congrArg List.length HRS.out
      rw [List.length_map, List.length_map, List.length_range] at h2
      have := HHT.out
      omega
    by_cases hlt : k < ht
    · obtain ⟨ws, hws⟩ : ∃ x, x = wr := ⟨_, rfl⟩
      subst hws
      have HJ0 := Lib.hid (RiI.mk (cols := cols) (i := k) (ws := ws) (wr := ws) 0 0 none 0 0 rfl (Nat.zero_le _) rfl (by rw [List.take_zero]; exact ownG_nil _ _ _ _) (fun _ => rfl) (Later.refl _))
      clear lat
      go_wp2_with fail
      go_loopw [5, 15] (fun rv jv wr => RiI cols k ws rv jv wr) (fun _ j _ => n - (intOf j).toNat)
      case atStart => exact HJ0.out
      case round =>
        obtain ⟨j, R, rn, rc, rfl, rfl, hj, hrn, hown, hnil, lat2⟩ := hrel
        have HOWN := Lib.hid hown
        have HLAT2 := Lib.hid lat2
        have HNIL := Lib.hid hnil
        have HRNJ := Lib.hid hrn
        have hrnb : rn ≤ 1000 := by have := HCL.out; omega
        clear hown hnil hrn
        by_cases hlj : j < n
        · have hjs : j < ss.length := by have := HN.out; omega
          obtain ⟨b, off, hA, ck, hhas, _, _, _⟩ := (HR.out.later (HLAT.out.trans lat2)).get j hjs
          subst hA
          have hle := HLEN.out j hjs
          obtain ⟨cb, coff, hCA, v0, v1, v2⟩ := hhas.val3 k (by omega)
          have hgd := HGET.out k j hjs
          rw [List.getD_eq_getElem?_getD, List.getElem?_eq_getElem (show k < ss[j].l.length by omega), Option.getD_some] at hgd
          have hjc : j < cols.length := by have := HCL.out; omega
          have HT := Lib.hid (show (rowAt cols k).take (j + 1) = (rowAt cols k).take j ++ [ss[j].l[k]] by
            rw [List.take_add_one, hgd]; rfl)
          generalize ss[j].l[k] = x at v0 v1 v2 HT
          obtain ⟨t, i, s⟩ := x
          dsimp only at v0 v1 v2
          rw [hCA] at ck
          have hkl : (k : Int) < (ss[j].l.length : Int) := by omega
          have hkl2 : k < ss[j].l.length := by omega
          generalize ss[j].c = cc at ck
          generalize ss[j].l.length = ln at ck hkl hkl2
          have HBK := Lib.hid (fun (wz : World) => Blk.new wz #[.int .i64 t, .int .i64 i, .string s] 26 wz.heap.size rfl)
          have HOA := Lib.hid (fun (o : Obj) => own_later HOWN.out (Later.new wr o))
          clear hgd hle hhas hCA HLEN
          have HSZ := Lib.hid (show ws.heap.size ≤ wr.heap.size from HLAT2.out.size)
          go_wp2_with (at_builtin; refine wpList_append_g _ rfl (.tmp 19) (.tmp 24) 56 rfl ws.heap.size 26 _ 3 32 Tryd.underlying56 info_v rfl (by decide) _ rn _ rfl (HOA.out _) _ 1 1 (fl [(t, i, s)]) rfl (HBK.out wr).has rfl (by intro h; cases h) (fl_one _) (by unfold maxLen; omega) (by omega) (by have := HSZ.out; simp; omega) ?_; rintro A' c' wq hO _ hbel hn2; have HO2 := Lib.hid hO; have HN2 := Lib.hid hn2; have HL2 := Lib.hid (Later.of ((HLAT2.out.alloc _).below.trans hbel)); clear hO hn2 hbel)
          go_roundw
          all_goals first
            | exact RiI.mk _ (j + 1) _ _ _ (by omega) (by omega) (by have := HRNJ.out; omega) (by rw [HT.out, fl_append]; exact HO2.out) HN2.out HL2.out
            | (simp [intOf]; omega)
        · have hjn : j = cols.length := by have := HCL.out; omega
          have HOK := Lib.hid (show (⟨R, rc, rowAt cols k⟩ : SlV).okX (Value.slice V vn vc).ownBlock wr by
            have ho := HOWN.out
            rw [List.take_of_length_le (by rw [rowAt_len]; omega)] at ho
            refine SlV.okX.own ho ?_ HNIL.out fun g hg => (HON.out.2.1.lt g hg).2
            have := HRNJ.out
            rw [rowAt_len]; omega)
          have HRL := Lib.hid (show (⟨R, rc, rowAt cols k⟩ : SlV).v = .slice R rn rc by
            rw [SlV.v_eq]
            have := HRNJ.out
            rw [rowAt_len]
            congr 1
            omega)
          have HON2 := Lib.hid (HON.out.later lat2)
          have HLW := Lib.hid (HLAT.out.trans lat2)
          have HBK := Lib.hid (fun (wz : World) => Blk.new wz #[.slice R rn rc] 56 wz.heap.size rfl)
          have HOA := Lib.hid (fun (o : Obj) => HON2.out.later (Later.new wr o))
          have HOKA := Lib.hid (fun (o : Obj) => HOK.out.later (Later.new wr o))
          have HSZ := Lib.hid (show w.heap.size ≤ wr.heap.size from HLW.out.size)
          clear hjn lat2
          go_wp2_with (at_builtin; refine wpList_append_x _ rfl (.tmp 27) (.tmp 29) 67 rfl w.heap.size 56 _ 1 24 Tryd.underlying67 info_row rfl (by decide) _ vn _ rfl (HOA.out _).2.1 _ 0 1 1 [.slice R rn rc] rfl (HBK.out wr).has rfl (by intro u hu; rw [List.mem_singleton] at hu; subst hu; rfl) (by unfold maxLen; omega) (by omega) (by have := HSZ.out; simp; omega) ?_; rintro A' c' wq hO hgr hbel hat hn2; have HO2 := Lib.hid (RowsOn.more (s := ⟨R, rc, rowAt cols k⟩) (HOA.out _) (HOKA.out _) (by rw [HRL.out]; exact hO) hgr hat hn2); have HL2 := Lib.hid (Later.of ((HLW.out.alloc _).below.trans hbel)); clear hO hn2 hbel hgr hat)
          go_roundw
          all_goals first
            | exact RoI.mk _ (k + 1) _ _ _ _ (by omega) (by have := HHT.out; omega) (by rw [List.map_append, HRS.out, List.range_succ, List.map_append]; rfl) HO2.out HL2.out
            | (simp [intOf]; omega)
    · have HF := Lib.hid (show rs.map (·.l) = rowsC cols by
        rw [HRS.out]; unfold rowsC
        rw [show k = heightC cols by have := HHT.out; omega])
      go_wp2_with fail
      go_ret
      have hat := HON.out.at_
      exact ⟨V, vc, rs, by rw [HON.out.1]; rfl, HF.out, hat.1, by rw [← HON.out.1]; exact hat.2.1, hat.2.2, HON.out.2.2.2, HLAT.out⟩
end Go.Proofs.YtkdpjocglfephaaDoor

/- The walk of pred.Rows. -/


namespace Go.Proofs.YtkdpjocglfephaaDoor
open Go.RowKit
set_option linter.unusedVariables false

/-- The places of the rows that pass, of the first k. -/
def passTo (cols : List Col3) (l : List Tst) (L : List (List Val3)) (k : Nat) : List Nat := (List.range k).filter fun i => decide (rowT cols l (L.getD i []) = 2)
theorem passTo_succ (cols : List Col3) (l : List Tst) (L : List (List Val3)) (k : Nat) : passTo cols l L (k + 1) = passTo cols l L k ++ (if rowT cols l (L.getD k []) = 2 then [k] else []) := by
  unfold passTo
  rw [List.range_succ, List.filter_append]
  congr 1
  by_cases h : rowT cols l (L.getD k []) = 2
  · rw [if_pos h, List.filter_cons_of_pos (by simpa using h)]; rfl
  · rw [if_neg h, List.filter_cons_of_neg (by simpa using h)]; rfl
theorem passTo_len (cols : List Col3) (l : List Tst) (L : List (List Val3)) (k : Nat) : (passTo cols l L k).length ≤ k := by
  unfold passTo
  refine Nat.le_trans (List.length_filter_le _ _) ?_
  rw [List.length_range]; exact Nat.le_refl _
/-- What a call gives that gives places. -/
def PlacesP (l : List Nat) (w : World) (e : Ending) (w' : World) : Prop :=
  ∃ (A : Option Addr) (c : Nat), e = .returned (.slice A l.length c) ∧ Has w' A (ints .i64 l) ∧ l.length ≤ c ∧ (A = none → c = 0) ∧ Later w w'
def PrI (cols : List Col3) (l : List Tst) (L : List (List Val3)) (w : World) (pv iv : Value) (wr : World) : Prop :=
  ∃ (k : Nat) (A : Option Addr) (n c : Nat), pv = .slice A n c ∧ iv = .int .i64 k ∧ k ≤ L.length ∧ n = (passTo cols l L k).length ∧ wr.ownsRow w.heap.size 3 1 (.slice A n c) n (ints .i64 (passTo cols l L k)) ∧ (A = none → c = 0) ∧ Later w wr
theorem PrI.mk {cols : List Col3} {l : List Tst} {L : List (List Val3)} {w wr : World} (y : Int) (k : Nat) (A : Option Addr) (n c : Nat) (hy : y = (k : Int)) (hk : k ≤ L.length) (hn : n = (passTo cols l L k).length) (ho : wr.ownsRow w.heap.size 3 1 (.slice A n c) n (ints .i64 (passTo cols l L k))) (hA : A = none → c = 0) (lat : Later w wr) : PrI cols l L w (.slice A n c) (.int .i64 y) wr := by
  subst hy; exact ⟨k, A, n, c, rfl, rfl, hk, hn, ho, hA, lat⟩
theorem info_int : (Tryd.prog.info? 3).map (fun i => (i.zero, i.size, i.bytes)) = some (some (.int .i64 0), 1, 8) := by kernel_rfl

set_option maxRecDepth 100000 in
set_option maxHeartbeats 4000000 in
theorem predRows_any (A : Option Addr) (n c : Nat) (last : Int) (cols : List Col3) (T : Option Addr) (tn tc : Nat) (l : List Tst) (C : Option Addr) (cn cc : Nat) (ss : List SlV) (w : World) (hn : n = cols.length) (hl : n ≤ 100000) (hr : Has w A (fc cols)) (htn : tn = l.length) (htl : tn ≤ 100000) (hT : Has w T (ft l)) (hcn : cn = ss.length) (hcl : cn ≤ 1000) (hC : RowsAt w C ss) (hb : ∀ s ∈ ss, s.l.length ≤ 1000) :
    Calls Tryd.prog 13 #[.agg #[.slice A n c, .int .i64 last], .slice T tn tc, .slice C cn cc] w (PlacesP (passTo cols l (rowsC (colsOf ss)) (rowsC (colsOf ss)).length) w) := by
  obtain ⟨gz, hgz⟩ : ∃ g, w.heap.size = g := ⟨_, rfl⟩
  obtain ⟨w1, hw1⟩ : ∃ x : World, w.alloc (.cells #[.slice A n c, .int .i64 last] 33) = x := ⟨_, rfl⟩
  have BS := Blk.new w #[.slice A n c, .int .i64 last] 33 gz hgz.symm
  have L1 := Later.new w (.cells #[.slice A n c, .int .i64 last] 33)
  rw [hw1] at BS L1
  have HBR := Lib.hid (batchRows_any C cn cc ss w1 hcn hcl (hC.later L1) hb)
  have hrb : (rowsC (colsOf ss)).length ≤ 1000 := by
    unfold rowsC
    rw [List.length_map, List.length_range]
    rcases ss with _ | ⟨s, r⟩
    · simp [colsOf, heightC]
    · exact Nat.le_trans (heightC_le (x := s.l) (by simp [colsOf])) (hb s (by simp))
  have hrw : ∀ x ∈ rowsC (colsOf ss), x.length ≤ 1000 := fun x hx => by
    obtain ⟨i, _, rfl⟩ := List.mem_map.1 hx
    rw [rowAt_len]; simp [colsOf]; omega
  have HRW := Lib.hid hrw
  obtain ⟨L, hL⟩ : ∃ x, rowsC (colsOf ss) = x := ⟨_, rfl⟩
  rw [hL] at HBR hrb HRW ⊢
  have HTN := Lib.hid htn
  have HN := Lib.hid hn
  have HBS := Lib.hid BS
  have HL1 := Lib.hid L1
  have HR := Lib.hid hr
  have HT := Lib.hid hT
  clear BS htn hn hr hT L1 hL hC hb hcn hrw
  go_enter Tryd.func13, Tryd.ntmps13
  go_wp2_with fail
  refine HBR.out.mono ?_
  rintro e w2 ⟨RA, rc, rs, rfl, hrs, hat, _, _, _, l2⟩
  have HRS := Lib.hid hrs
  have HAT := Lib.hid hat
  have HL2 := Lib.hid l2
  have hlen : rs.length = L.length := by rw [← hrs, List.length_map]
  have HLEN := Lib.hid hlen
  obtain ⟨m, hm⟩ : ∃ m, rs.length = m := ⟨_, rfl⟩
  rw [hm] at hlen ⊢
  have HM := Lib.hid hm
  have hmb : m ≤ 1000 := by omega
  have HMB := Lib.hid hlen
  have HI0 := Lib.hid (PrI.mk (cols := cols) (l := l) (L := L) (w := w2) (wr := w2) 0 0 none 0 0 rfl (Nat.zero_le _) rfl (ownG_nil _ _ _ _) (fun _ => rfl) (Later.refl _))
  clear HBR hw1 hgz hrs hat l2 hlen hm
  go_wp2_with fail
  go_loopw [7, 13] (fun pv iv wr => PrI cols l L w2 pv iv wr) (fun _ i _ => m - (intOf i).toNat)
  case atStart => exact HI0.out
  case round =>
    obtain ⟨k, P, pn, pc, rfl, rfl, hk, hpn, hown, hnil, lat⟩ := hrel
    have HOWN := Lib.hid hown
    have HNIL := Lib.hid hnil
    have HLAT := Lib.hid lat
    have HPN := Lib.hid hpn
    have hpb : pn ≤ 1000 := by have := passTo_len cols l L k; omega
    clear HI0 hown hnil hpn
    by_cases hlt : k < m
    · have hkr : k < rs.length := by have := HM.out; omega
      obtain ⟨rb, roff, hRA, ck, hrow, _, _, _⟩ := (HAT.out.later lat).get k hkr
      subst hRA
      have hLk : L.getD k [] = rs[k].l := by
        rw [← HRS.out, List.getD_eq_getElem?_getD, List.getElem?_map, List.getElem?_eq_getElem hkr]; rfl
      have hbl : rs[k].l.length ≤ 1000 := by
        refine HRW.out _ ?_
        rw [← HRS.out]
        exact List.mem_map.2 ⟨_, List.getElem_mem hkr, rfl⟩
      have HPR := Lib.hid (predRow_any A n c last cols (some ⟨0, 0, none⟩) tn tc l rs[k].a rs[k].l.length rs[k].c rs[k].l wr HN.out hl (HR.out.later ((HL1.out.trans HL2.out).trans lat)) HTN.out htl)
      have HPR2 := Lib.hid (predRow_any A n c last cols T tn tc l rs[k].a rs[k].l.length rs[k].c rs[k].l wr HN.out hl (HR.out.later ((HL1.out.trans HL2.out).trans lat)) HTN.out htl (HT.out.later ((HL1.out.trans HL2.out).trans lat)) rfl (by omega) hrow)
      have HS := Lib.hid (passTo_succ cols l L k)
      rw [hLk] at HS
      obtain ⟨x, hx⟩ : ∃ x, rowT cols l rs[k].l = x := ⟨_, rfl⟩
      rw [hx] at HPR2 HS
      clear HPR hx hLk hrow
      generalize rs[k].a = ra at ck HPR2
      generalize rs[k].c = rcc at ck HPR2
      generalize rs[k].l.length = rl at ck HPR2
      have s0 := ((HBS.out.later HL2.out).later lat).cell 0 _ rfl
      have s1 := ((HBS.out.later HL2.out).later lat).cell 1 _ rfl
      clear lat
      go_wp2_with fail
      refine HPR2.out.mono ?_
      rintro e wX ⟨rfl, lX⟩
      have HLX := Lib.hid (HLAT.out.trans lX)
      have HOX := Lib.hid (own_later HOWN.out lX)
      clear lX HPR2 s0 s1 ck
      by_cases h2 : x = 2
      · subst h2
        have HS2 := Lib.hid (show passTo cols l L (k + 1) = passTo cols l L k ++ [k] by rw [HS.out, if_pos rfl])
        have HBK := Lib.hid (fun (wz : World) => Blk.new wz #[.int .i64 (k : Int)] 3 wz.heap.size rfl)
        have HOA := Lib.hid (fun (o : Obj) => own_later HOX.out (Later.new wX o))
        have HSZ := Lib.hid (show w2.heap.size ≤ wX.heap.size from HLX.out.size)
        go_wp2_with (at_builtin; refine wpList_append_g _ rfl (.tmp 23) (.tmp 25) 34 rfl w2.heap.size 3 _ 1 8 Tryd.underlying34 info_int rfl (by decide) _ pn _ rfl (HOA.out _) _ 1 1 (ints .i64 [k]) rfl (HBK.out wX).has rfl (by intro h; cases h) (ints_one _ _) (by unfold maxLen; omega) (by omega) (by have := HSZ.out; simp; omega) ?_; rintro A' c' wq hO _ hbel hn2; have HO2 := Lib.hid hO; have HN2 := Lib.hid hn2; have HL3 := Lib.hid (Later.of ((HLX.out.alloc _).below.trans hbel)); clear hO hn2 hbel)
        all_goals go_roundw
        all_goals first
          | exact PrI.mk _ (k + 1) _ _ _ (by omega) (by have := HMB.out; omega) (by rw [HS2.out, List.length_append, ← HPN.out]; rfl) (by rw [HS2.out, ints_snoc]; exact HO2.out) HN2.out HL3.out
          | (simp [intOf]; omega)
      · have hx2 : (x == 2) = false := by simpa using h2
        have HS2 := Lib.hid (show passTo cols l L (k + 1) = passTo cols l L k by rw [HS.out, if_neg h2, List.append_nil])
        clear h2
        go_wp2_with fail
        all_goals go_roundw
        all_goals first
          | exact PrI.mk _ (k + 1) _ _ _ (by omega) (by have := HMB.out; omega) (by rw [HS2.out]; exact HPN.out) (by rw [HS2.out]; exact HOX.out) HNIL.out HLX.out
          | (simp [intOf]; omega)
    · have hkl : k = L.length := by have := HMB.out; omega
      have HF := Lib.hid (show pn = (passTo cols l L L.length).length by rw [← hkl]; exact HPN.out)
      have HFO := Lib.hid (show wr.ownsRow w2.heap.size 3 1 (.slice P pn pc) pn (ints .i64 (passTo cols l L L.length)) by rw [← hkl]; exact HOWN.out)
      clear hkl
      go_wp2_with fail
      go_ret
      exact ⟨P, pc, by rw [HF.out]; rfl, Has.own HFO.out, by rw [← HF.out]; exact ownG_cap HFO.out, HNIL.out, (HL1.out.trans HL2.out).trans HLAT.out⟩
end Go.Proofs.YtkdpjocglfephaaDoor

/- value.check, May under the three sentinels that they name; fault.Of. -/


namespace Go.Proofs.YtkdpjocglfephaaDoor
open Go.RowKit
set_option linter.unusedVariables false

/-- The three sentinels that value.check names. -/
structure S3 (w : World) : Prop where
  value : CSent w 4
  bound : CSent w 5
  type : CSent w 6
theorem S3.later {w w' : World} (h : S3 w) (l : Later w w') : S3 w' := ⟨h.value.later l, h.bound.later l, h.type.later l⟩
def CheckP (t i : Int) (n : Nat) (w : World) (e : Ending) (w' : World) : Prop :=
  ((MayV t i n ∧ e = .returned .nilIface) ∨ (¬ MayV t i n ∧ ∃ p, e = .returned (.iface 144 (.pointer (some p))))) ∧ Later w w'

set_option maxRecDepth 100000 in
set_option maxHeartbeats 1000000 in
theorem check3_any (t i : Int) (s : ByteArray) (w : World) (hs : S3 w) :
    Calls Tryd.prog 69 #[.agg #[.int .i64 t, .int .i64 i, .string s]] w (CheckP t i s.size w) := by
  obtain ⟨a2, h2⟩ := hs.value
  obtain ⟨a3, h3⟩ := hs.bound
  obtain ⟨a4, h4⟩ := hs.type
  have g2 : 4 < w.heap.size := block_lt_of_cell h2
  have g3 : 5 < w.heap.size := block_lt_of_cell h3
  have g4 : 6 < w.heap.size := block_lt_of_cell h4
  clear hs
  have HE1 := Lib.hid (fun o : Obj => Later.new w o)
  have HE2 := Lib.hid (fun o o' : Obj => (Later.new w o).alloc o')
  by_cases hz : s.size = 0
  · have hse : s.toList.isEmpty = true := by
      rw [Lib.toList_data]; cases s with | mk d => simpa [ByteArray.size] using hz
    go_enter Tryd.func69, Tryd.ntmps69
    (go_wp2_with (go_at_call 48; refine (at_any _ _ _ _ _ rfl).mono ?_; rintro e w' ⟨rfl, rfl⟩))
    all_goals go_ret
    all_goals simp only [bne_iff_ne, ne_eq, bne_eq_false_iff_eq, beq_iff_eq, beq_eq_false_iff_ne] at *
    all_goals first
      | exact ⟨.inl ⟨by unfold MayV; omega, rfl⟩, HE1.out _⟩
      | exact ⟨.inr ⟨by unfold MayV; omega, _, rfl⟩, HE2.out _ _⟩
  · have hse : s.toList.isEmpty = false := by
      rw [Lib.toList_data]; cases s with | mk d => simpa [ByteArray.size] using hz
    go_enter Tryd.func69, Tryd.ntmps69
    (go_wp2_with (go_at_call 48; refine (at_any _ _ _ _ _ rfl).mono ?_; rintro e w' ⟨rfl, rfl⟩))
    all_goals go_ret
    all_goals simp only [bne_iff_ne, ne_eq, bne_eq_false_iff_eq, beq_iff_eq, beq_eq_false_iff_ne] at *
    all_goals first
      | exact ⟨.inl ⟨by unfold MayV; omega, rfl⟩, HE1.out _⟩
      | exact ⟨.inr ⟨by unfold MayV; omega, _, rfl⟩, HE2.out _ _⟩

set_option maxRecDepth 100000 in
theorem may3_any (t i : Int) (s : ByteArray) (w : World) (hs : S3 w) :
    Calls Tryd.prog 50 #[.agg #[.int .i64 t, .int .i64 i, .string s]] w (TellsP (MayV t i s.size) w) := by
  obtain ⟨w1, hw1⟩ : ∃ w1 : World, w.alloc (.cells #[.int .i64 t, .int .i64 i, .string s] 26) = w1 := ⟨_, rfl⟩
  have b1 : Later w w1 := hw1 ▸ Later.new w _
  have HC := Lib.hid (check3_any t i s w1 (hs.later b1))
  have HB := Lib.hid b1
  have HW := Lib.hid hw1
  clear hs hw1 b1
  go_enter Tryd.func50, Tryd.ntmps50
  go_wp2_with fail
  rw [HW.out]
  refine HC.out.mono ?_
  rintro e w2 ⟨h, b2⟩
  have HB2 := Lib.hid (HB.out.trans b2)
  clear b2
  rcases h with ⟨hm, rfl⟩ | ⟨hm, p, rfl⟩
  · have HM := Lib.hid hm
    clear hm
    go_wp2_with fail
    go_ret
    exact TellsP.t HM.out HB2.out
  · have HM := Lib.hid hm
    have hif : Tryd.prog.isIface 89 = true := by kernel_rfl
    have heq := run_eql_iface_nil (P := Tryd.prog) (w := w2) 89 hif 144 (.pointer (some p))
    clear hm
    go_wp2_with fail
    go_ret
    exact TellsP.f HM.out HB2.out

/-- fault.Of. -/
theorem of_some (e : Int) (w : World) (h : e ≠ 0) : Calls Tryd.prog 49 #[.int .i64 e] w fun r w' => r = .returned (.iface 115 (.int .i64 e)) ∧ w = w' := by
  have h0 : (e == 0) = false := by simpa using h
  clear h
  go_enter Tryd.func49, Tryd.ntmps49
  go_wp2_with fail
  go_ret
  exact ⟨rfl, rfl⟩
end Go.Proofs.YtkdpjocglfephaaDoor

/- errors.As at a target *fault.Errno, where the error is a *fault.Where that wraps an Errno; fault.Tell. Go's own text is walked. -/






namespace Go.Proofs.YtkdpjocglfephaaDoor
open Go.RowKit Go.Extern.Stop Go.Stop Go.Extern
set_option linter.unusedVariables false

/-- What the walks ask of errors.errorType: it holds the handle of the type error. -/
def ErrT (w : World) : Prop := w.cell? ⟨3, 0, none⟩ = some (.iface 158 (.agg #[.pointer (some ⟨8, 89, none⟩)]))
theorem ErrT.later {w w' : World} (h : ErrT w) (l : Later w w') : ErrT w' := l.cell h

theorem asValueOfT (t : Addr) (w : World) : (ReflectliteValue.unpack (.iface 117 (.pointer (some t)))).run Tryd.prog w
    = .ok (.agg #[.pointer (some ⟨8, 117, none⟩), .pointer (some ⟨w.heap.size, 0, none⟩), .int .u64 150]) (w.alloc (.cells #[.pointer (some t)] 117)) := by kernel_rfl
theorem asTypeT (a : Addr) (w : World) : (ReflectliteValue.methodAny (ReflectliteValue.valueError "reflectlite.Value.Type" 0) (fun t _ _ _ => ReflectliteType.toType t) #[.agg #[.pointer (some ⟨8, 117, none⟩), .pointer (some a), .int .u64 150]]).run Tryd.prog w
    = .ok (.iface 158 (.agg #[.pointer (some ⟨8, 117, none⟩)])) w := by kernel_rfl
theorem asMethodKind (h : Value) (w : World) : (Go.method 318 158 (.agg #[h]) "Kind").run Tryd.prog w = .ok (111, h) w := by kernel_rfl
theorem asKindT (w : World) : ((ReflectliteType.abiMethod fun t => (fun a : Nat => Value.int IntKind.u8 (a : Int)) <$> Rtype.kind t) #[.pointer (some ⟨8, 117, none⟩)]).run Tryd.prog w = .ok (.int .u8 22) w := by kernel_rfl
theorem asKindE (w : World) : ((ReflectliteType.abiMethod fun t => (fun a : Nat => Value.int IntKind.u8 (a : Int)) <$> Rtype.kind t) #[.pointer (some ⟨8, 115, none⟩)]).run Tryd.prog w = .ok (.int .u8 2) w := by kernel_rfl
theorem rlm (z : Sem Value) (f : TypeId → Addr → Nat → Nat → Sem Value) (v : Value) :
    ReflectliteValue.method z f #[v] = (do match ← ReflectliteValue.parts v with | none => z | some (t, a, fl) => f t a fl (fl % 32)) := rfl
theorem asPartsT (a : Addr) (w : World) : (ReflectliteValue.parts (.agg #[.pointer (some ⟨8, 117, none⟩), .pointer (some a), .int .u64 150])).run Tryd.prog w = .ok (some (117, a, 150)) w := by kernel_rfl
theorem asIsNilT (a p : Addr) (W : World) (ha : W.cell? a = some (.pointer (some p))) :
    (ReflectliteValue.method (ReflectliteValue.valueError "reflectlite.Value.IsNil" 0) ReflectliteValue.isNil #[.agg #[.pointer (some ⟨8, 117, none⟩), .pointer (some a), .int .u64 150]]).run Tryd.prog W = .ok (.bool false) W := by
  rw [rlm]
  simp only [Sem.run_bind, asPartsT, Result.andThen]
  simp [ReflectliteValue.isNil, loadVar, isAgg, underlying, Tryd.underlying117, ha, Result.andThen]
theorem asMethodElem (h : Value) (w : World) : (Go.method 318 158 (.agg #[h]) "Elem").run Tryd.prog w = .ok (123, .agg #[h]) w := by kernel_rfl
theorem asMethodImplements (h : Value) (w : World) : (Go.method 318 158 (.agg #[h]) "Implements").run Tryd.prog w = .ok (124, .agg #[h]) w := by kernel_rfl
theorem asMethodAssignableTo (h : Value) (w : World) : (Go.method 318 158 (.agg #[h]) "AssignableTo").run Tryd.prog w = .ok (121, .agg #[h]) w := by kernel_rfl
theorem asElemT (w : World) : (ReflectliteType.method ReflectliteType.elem #[.agg #[.pointer (some ⟨8, 117, none⟩)]]).run Tryd.prog w = .ok (.iface 158 (.agg #[.pointer (some ⟨8, 115, none⟩)])) w := by kernel_rfl
theorem asImplementsE (w : World) : (ReflectliteType.relation "Implements" ReflectliteType.implements_ #[.agg #[.pointer (some ⟨8, 115, none⟩)], .iface 158 (.agg #[.pointer (some ⟨8, 89, none⟩)])]).run Tryd.prog w = .ok (.bool true) w := by kernel_rfl
theorem asTypeOfE (v : Value) (w : World) : (ReflectliteType.typeOf #[.iface 115 v]).run Tryd.prog w = .ok (.iface 158 (.agg #[.pointer (some ⟨8, 115, none⟩)])) w := by kernel_rfl
theorem asTypeOfW (v : Value) (w : World) : (ReflectliteType.typeOf #[.iface 144 v]).run Tryd.prog w = .ok (.iface 158 (.agg #[.pointer (some ⟨8, 144, none⟩)])) w := by kernel_rfl
theorem asAssignE (w : World) : (ReflectliteType.relation "AssignableTo" ReflectliteType.assignableTo #[.agg #[.pointer (some ⟨8, 115, none⟩)], .iface 158 (.agg #[.pointer (some ⟨8, 115, none⟩)])]).run Tryd.prog w = .ok (.bool true) w := by kernel_rfl
theorem asAssignW (w : World) : (ReflectliteType.relation "AssignableTo" ReflectliteType.assignableTo #[.agg #[.pointer (some ⟨8, 144, none⟩)], .iface 158 (.agg #[.pointer (some ⟨8, 115, none⟩)])]).run Tryd.prog w = .ok (.bool false) w := by kernel_rfl
theorem asValueOfE (e : Int) (w : World) : (ReflectliteValue.unpack (.iface 115 (.int .i64 e))).run Tryd.prog w
    = .ok (.agg #[.pointer (some ⟨8, 115, none⟩), .pointer (some ⟨w.heap.size, 0, none⟩), .int .u64 130]) (w.alloc (.cells #[.int .i64 e] 115)) := by kernel_rfl
theorem asElemOfT (w : World) : (Rtype.elem? 117).run Tryd.prog w = .ok (some 115) w := by kernel_rfl
theorem asMkE (p : Addr) (w : World) : (ReflectliteValue.mk 115 p ReflectliteValue.flagAddr).run Tryd.prog w = .ok (.agg #[.pointer (some ⟨8, 115, none⟩), .pointer (some p), .int .u64 386]) w := by kernel_rfl
theorem asElemV (a p : Addr) (W : World) (ha : W.cell? a = some (.pointer (some p))) :
    (ReflectliteValue.method (ReflectliteValue.valueError "reflectlite.Value.Elem" 0) ReflectliteValue.elem #[.agg #[.pointer (some ⟨8, 117, none⟩), .pointer (some a), .int .u64 150]]).run Tryd.prog W
      = .ok (.agg #[.pointer (some ⟨8, 115, none⟩), .pointer (some p), .int .u64 386]) W := by
  rw [rlm]
  simp only [Sem.run_bind, asPartsT, Result.andThen]
  simp [ReflectliteValue.elem, loadVar, isAgg, underlying, Tryd.underlying117, ha, Result.andThen, asElemOfT, asMkE]
theorem rls (v x : Value) : ReflectliteValue.set #[v, x] = (do
    let (some (dst, a, fl), some (src, b, _)) := (← ReflectliteValue.parts v, ← ReflectliteValue.parts x)
      | unsupported (.noEntry "extern/(internal/reflectlite.Value).Set.zeroValue")
    if fl / ReflectliteValue.flagAddr % 2 == 0 then unsupported (.noEntry "extern/(internal/reflectlite.Value).Set.unaddressable")
    let val ← loadVar src b
    if ← Rtype.directlyAssignable dst src then storeVar dst a val
    else if ← Rtype.implements dst src then
      if (← Rtype.kind src) == 20 then
        match val with
        | .nilIface => unsupported (.noEntry "extern/reflectlite: a nil value of one interface type handed on as a value of another")
        | _ => storeVar dst a val
      else storeVar dst a (.iface src val)
    else panicString ("reflectlite.Set: value of type " ++ (← Rtype.spelt src) ++ " is not assignable to type " ++ (← Rtype.spelt dst))
    pure (.tuple #[])) := rfl
theorem asPartsEa (a : Addr) (w : World) : (ReflectliteValue.parts (.agg #[.pointer (some ⟨8, 115, none⟩), .pointer (some a), .int .u64 386])).run Tryd.prog w = .ok (some (115, a, 386)) w := by kernel_rfl
theorem asPartsE (a : Addr) (w : World) : (ReflectliteValue.parts (.agg #[.pointer (some ⟨8, 115, none⟩), .pointer (some a), .int .u64 130])).run Tryd.prog w = .ok (some (115, a, 130)) w := by kernel_rfl
theorem asDirectE (w : World) : (Rtype.directlyAssignable 115 115).run Tryd.prog w = .ok true w := by kernel_rfl
theorem asSetE (ta b : Addr) (e : Int) (old : Value) (W : World) (hb : W.cell? b = some (.int .i64 e)) (ht : W.cell? ta = some old) (hf : W.frozen? ta = false) :
    (ReflectliteValue.set #[.agg #[.pointer (some ⟨8, 115, none⟩), .pointer (some ta), .int .u64 386], .agg #[.pointer (some ⟨8, 115, none⟩), .pointer (some b), .int .u64 130]]).run Tryd.prog W
      = .ok (.tuple #[]) (W.setCell ta (.int .i64 e)) := by
  rw [rls]
  simp only [Sem.run_bind, asPartsEa, asPartsE, Result.andThen]
  simp [ReflectliteValue.flagAddr, loadVar, isAgg, underlying, Tryd.underlying115, hb, Result.andThen, asDirectE, storeVar, Value.cells, storeCells, Addr.add]
  rw [run_store Tryd.prog W ta _ _ (by rfl)]
  simp [ht, hf]
theorem asNoAs (v : Value) (xT : TypeId) (w : World) : (Instr.typeAssert (.iface 144 v) xT 170 true).run Tryd.prog w = .ok (.tuple #[.nilIface, .bool false]) w := run_typeAssert_lacksB Tryd.underlying170 (by kernel_rfl) (by kernel_rfl) v xT w
theorem asUnwrapW (v : Value) (xT : TypeId) (w : World) : (Instr.typeAssert (.iface 144 v) xT 163 true).run Tryd.prog w = .ok (.tuple #[.iface 144 v, .bool true]) w := run_typeAssert_hasB Tryd.underlying163 (by kernel_rfl) v xT w
theorem asMethodUnwrap (v : Value) (w : World) : (Go.method 318 144 v "Unwrap").run Tryd.prog w = .ok (119, v) w := by kernel_rfl

/-- The world behind errors.As, ahead of the store. -/
def asW (w : World) (t : Addr) (e : Int) : World :=
  (((w.alloc (.cells #[.pointer (some t)] 117)).alloc (.cells #[.pointer (some ⟨8, 117, none⟩), .pointer (some ⟨w.heap.size, 0, none⟩), .int .u64 150] 137)).alloc (.cells #[.pointer (some ⟨8, 117, none⟩), .pointer (some ⟨w.heap.size, 0, none⟩), .int .u64 150] 137)).alloc (.cells #[.int .i64 e] 115)

set_option maxRecDepth 100000 in
set_option maxHeartbeats 4000000 in
theorem as_hit (p : Addr) (e : Int) (t : Addr) (old : Value) (w : World) (hg : ErrT w) (hp : w.cell? (p.add 2) = some (.iface 115 (.int .i64 e))) (hps : p.spot = none) (ht0 : w.cell? t = some old) (hf0 : w.frozen? t = false) :
    Calls Tryd.prog 47 #[.iface 144 (.pointer (some p)), .iface 117 (.pointer (some t))] w fun ev w' => ev = .returned (.bool true) ∧ (asW w t e).setCell t (.int .i64 e) = w' := by
  obtain ⟨pb, po, ps⟩ := p
  dsimp only at hps
  subst hps
  rw [add_plain] at hp
  unfold ErrT at hg
  have h6 := @run_callFunc_extern Tryd.prog 65 _ (fun args => ReflectliteValue.unpack (args.getD 0 (.tuple #[]))) Tryd.func65 (by kernel_rfl) (by kernel_rfl) (by kernel_rfl) (by kernel_rfl)
  have h7 := @run_callFunc_extern Tryd.prog 66 _ (ReflectliteValue.methodAny (ReflectliteValue.valueError "reflectlite.Value.Type" 0) (fun t _ _ _ => ReflectliteType.toType t)) Tryd.func66 (by kernel_rfl) (by kernel_rfl) (by kernel_rfl) (by kernel_rfl)
  have h8 := @run_callFunc_extern Tryd.prog 67 _ (ReflectliteValue.method (ReflectliteValue.valueError "reflectlite.Value.IsNil" 0) ReflectliteValue.isNil) Tryd.func67 (by kernel_rfl) (by kernel_rfl) (by kernel_rfl) (by kernel_rfl)
  have h27 := @run_callFunc_extern Tryd.prog 111 _ (ReflectliteType.abiMethod fun t => do pure (.int .u8 (← Rtype.kind t))) Tryd.func111 (by kernel_rfl) (by kernel_rfl) (by kernel_rfl) (by kernel_rfl)
  have h37 := @run_callFunc_extern Tryd.prog 123 _ (ReflectliteType.method ReflectliteType.elem) Tryd.func123 (by kernel_rfl) (by kernel_rfl) (by kernel_rfl) (by kernel_rfl)
  have h38 := @run_callFunc_extern Tryd.prog 124 _ (ReflectliteType.relation "Implements" ReflectliteType.implements_) Tryd.func124 (by kernel_rfl) (by kernel_rfl) (by kernel_rfl) (by kernel_rfl)
  have h10 := @run_callFunc_extern Tryd.prog 59 _ ReflectliteType.typeOf Tryd.func59 (by kernel_rfl) (by kernel_rfl) (by kernel_rfl) (by kernel_rfl)
  have h35 := @run_callFunc_extern Tryd.prog 121 _ (ReflectliteType.relation "AssignableTo" ReflectliteType.assignableTo) Tryd.func121 (by kernel_rfl) (by kernel_rfl) (by kernel_rfl) (by kernel_rfl)
  have h11 := @run_callFunc_extern Tryd.prog 81 _ (ReflectliteValue.method (ReflectliteValue.valueError "reflectlite.Value.Elem" 0) ReflectliteValue.elem) Tryd.func81 (by kernel_rfl) (by kernel_rfl) (by kernel_rfl) (by kernel_rfl)
  have h12 := @run_callFunc_extern Tryd.prog 82 _ ReflectliteValue.set Tryd.func82 (by kernel_rfl) (by kernel_rfl) (by kernel_rfl) (by kernel_rfl)
  have tO := asTypeOfE
  have tW := asTypeOfW
  have mA := asMethodAssignableTo
  have aE := asAssignE
  have aW := asAssignW
  have vE := asValueOfE
  have f6 := asValueOfT
  have f7 := asTypeT
  have mK := asMethodKind
  have mE := asMethodElem
  have mI := asMethodImplements
  have kT := asKindT
  have kE := asKindE
  have eT := asElemT
  have iE := asImplementsE
  have nA := asNoAs
  have uW := asUnwrapW
  have mU := asMethodUnwrap
  have n8 := asIsNilT ⟨w.heap.size, 0, none⟩ t ((w.alloc (.cells #[.pointer (some t)] 117)).alloc (.cells #[.pointer (some ⟨8, 117, none⟩), .pointer (some ⟨w.heap.size, 0, none⟩), .int .u64 150] 137)) (by simp)
  have hlt : 3 < w.heap.size := block_lt_of_cell hg
  have hpl : pb < w.heap.size := block_lt_of_cell hp
  have hg2 : ((w.alloc (.cells #[.pointer (some t)] 117)).alloc (.cells #[.pointer (some ⟨8, 117, none⟩), .pointer (some ⟨w.heap.size, 0, none⟩), .int .u64 150] 137)).cell? ⟨3, 0, none⟩ = some (.iface 158 (.agg #[.pointer (some ⟨8, 89, none⟩)])) := by
    rw [World.cell?_alloc_lt _ _ ⟨3, 0, none⟩ (by simp <;> omega), World.cell?_alloc_lt _ _ ⟨3, 0, none⟩ hlt]; exact hg
  have hp3 : (((w.alloc (.cells #[.pointer (some t)] 117)).alloc (.cells #[.pointer (some ⟨8, 117, none⟩), .pointer (some ⟨w.heap.size, 0, none⟩), .int .u64 150] 137)).alloc (.cells #[.pointer (some ⟨8, 117, none⟩), .pointer (some ⟨w.heap.size, 0, none⟩), .int .u64 150] 137)).cell? ⟨pb, po + 2, none⟩ = some (.iface 115 (.int .i64 e)) := by
    rw [World.cell?_alloc_lt _ _ ⟨pb, po + 2, none⟩ (by simp <;> omega), World.cell?_alloc_lt _ _ ⟨pb, po + 2, none⟩ (by simp <;> omega), World.cell?_alloc_lt _ _ ⟨pb, po + 2, none⟩ hpl]; exact hp
  have htl : t.block < w.heap.size := by
    rcases Nat.lt_or_ge t.block w.heap.size with h | h
    · exact h
    · simp [World.cell?, Array.getElem?_eq_none h] at ht0
  have el := asElemV ⟨w.heap.size, 0, none⟩ t (((w.alloc (.cells #[.pointer (some t)] 117)).alloc (.cells #[.pointer (some ⟨8, 117, none⟩), .pointer (some ⟨w.heap.size, 0, none⟩), .int .u64 150] 137)).alloc (.cells #[.pointer (some ⟨8, 117, none⟩), .pointer (some ⟨w.heap.size, 0, none⟩), .int .u64 150] 137)) (by rw [World.cell?_alloc_lt _ _ ⟨w.heap.size, 0, none⟩ (by simp <;> omega)]; simp)
  have st := asSetE t ⟨w.heap.size + 1 + 1 + 1, 0, none⟩ e old ((((w.alloc (.cells #[.pointer (some t)] 117)).alloc (.cells #[.pointer (some ⟨8, 117, none⟩), .pointer (some ⟨w.heap.size, 0, none⟩), .int .u64 150] 137)).alloc (.cells #[.pointer (some ⟨8, 117, none⟩), .pointer (some ⟨w.heap.size, 0, none⟩), .int .u64 150] 137)).alloc (.cells #[.int .i64 e] 115))
    (by rw [World.cell?_alloc_at _ _ _ _ (by simp)]; rfl)
    (by rw [World.cell?_alloc_lt _ _ t (by simp <;> omega), World.cell?_alloc_lt _ _ t (by simp <;> omega), World.cell?_alloc_lt _ _ t (by simp <;> omega), World.cell?_alloc_lt _ _ t htl]; exact ht0)
    (by rw [World.frozen?_alloc_old _ _ t (by simp <;> omega), World.frozen?_alloc_old _ _ t (by simp <;> omega), World.frozen?_alloc_old _ _ t (by simp <;> omega), World.frozen?_alloc_old _ _ t (Nat.ne_of_lt htl)]; exact hf0)
  have hif : Tryd.prog.isIface 89 = true := by kernel_rfl
  have hq := fun w => run_eql_iface_nil (P := Tryd.prog) (w := w) 89 hif 115 (.int .i64 e)
  have hq2 := fun w => run_eql_iface_nil (P := Tryd.prog) (w := w) 89 hif 144 (.pointer (some ⟨pb, po, none⟩))
  clear hp ht0 hf0 htl hlt hpl hg
  go_enter Tryd.func47, Tryd.ntmps47
  go_wp2
  refine wp_loop_rounds 2 ?_
  rw [rounds_succ]
  go_wp2
  rw [rounds_succ]
  go_wp2
  go_ret
  exact ⟨rfl, rfl⟩

/-- fault.Tell of nothing. -/
theorem tell_nil (w : World) : Calls Tryd.prog 27 #[.nilIface] w fun r w' => r = .returned (.int .i64 0) ∧ w = w' := by
  go_enter Tryd.func27, Tryd.ntmps27
  go_wp2
  go_ret
  exact ⟨rfl, rfl⟩
theorem asW_later (w : World) (t : Addr) (e : Int) : Later w (asW w t e) := (((Later.new w _).alloc _).alloc _).alloc _
/-- An error of fault.At that wraps the Errno e. -/
def WrapsE (w : World) (v : Value) (e : Int) : Prop := ∃ b o, v = .iface 144 (.pointer (some ⟨b, o, none⟩)) ∧ w.cell? ⟨b, o + 2, none⟩ = some (.iface 115 (.int .i64 e))
set_option maxRecDepth 100000 in
/-- fault.Tell of an Errno that fault.At wraps. -/
theorem tell_some (v : Value) (e : Int) (w : World) (hg : ErrT w) (hv : WrapsE w v e) : Calls Tryd.prog 27 #[v] w fun r w' => r = .returned (.int .i64 e) ∧ Later w w' := by
  obtain ⟨b, o, rfl, hc⟩ := hv
  have l1 : Later w (w.alloc (.cells #[.int .i64 0] 115)) := Later.new w _
  have B1 := Blk.new w #[.int .i64 0] 115 _ rfl
  have HA := Lib.hid (as_hit ⟨b, o, none⟩ e ⟨w.heap.size, 0, none⟩ (.int .i64 0) (w.alloc (.cells #[.int .i64 0] 115)) (hg.later l1) (by rw [add_plain]; exact l1.cell hc) rfl (B1.cell 0 _ rfl) (B1.frozen 0))
  have B2 := (B1.later (asW_later _ ⟨w.heap.size, 0, none⟩ e)).set_ 0 (.int .i64 e)
  have HL := Lib.hid ((l1.trans (asW_later _ ⟨w.heap.size, 0, none⟩ e)).set_ (p := ⟨w.heap.size, 0, none⟩) (Nat.le_refl _) (.int .i64 e))
  have c2 : CellIs ((asW (w.alloc (.cells #[.int .i64 0] 115)) ⟨w.heap.size, 0, none⟩ e).setCell ⟨w.heap.size, 0, none⟩ (.int .i64 e)) ⟨w.heap.size, 0, none⟩ (.int .i64 e) := B2.cell 0 _ rfl
  obtain ⟨w2, hw2⟩ : ∃ x, (asW (w.alloc (.cells #[.int .i64 0] 115)) ⟨w.heap.size, 0, none⟩ e).setCell ⟨w.heap.size, 0, none⟩ (.int .i64 e) = x := ⟨_, rfl⟩
  rw [hw2] at HA HL c2
  have hif : Tryd.prog.isIface 89 = true := by kernel_rfl
  have hq2 := fun w => run_eql_iface_nil (P := Tryd.prog) (w := w) 89 hif 144 (.pointer (some ⟨b, o, none⟩))
  clear hg hc l1 B1 B2 hw2
  go_enter Tryd.func27, Tryd.ntmps27
  go_wp2_with fail
  refine HA.out.mono ?_
  rintro r w3 ⟨rfl, rfl⟩
  have c3 := c2.out
  clear HA c2
  go_wp2_with fail
  go_ret
  exact ⟨rfl, HL.out⟩
theorem at_e (s : ByteArray) (p e : Int) (w : World) :
    Calls Tryd.prog 48 #[.string s, .int .i64 p, .iface 115 (.int .i64 e)] w fun r w' => ∃ v, r = .returned v ∧ WrapsE w' v e ∧ Later w w' := by
  have hif : Tryd.prog.isIface 89 = true := by kernel_rfl
  have heq := fun w => run_eql_iface_nil (P := Tryd.prog) (w := w) 89 hif 115 (.int .i64 e)
  have B := Blk.new w #[.string s, .int .i64 p, .iface 115 (.int .i64 e)] 146 _ rfl
  have HB := Lib.hid (B.cell 2 _ rfl)
  have HL := Lib.hid (Later.new w (.cells #[.string s, .int .i64 p, .iface 115 (.int .i64 e)] 146))
  clear B
  go_enter Tryd.func48, Tryd.ntmps48
  go_wp2
  go_ret
  exact ⟨_, rfl, ⟨_, _, rfl, HB.out⟩, HL.out⟩
end Go.Proofs.YtkdpjocglfephaaDoor
