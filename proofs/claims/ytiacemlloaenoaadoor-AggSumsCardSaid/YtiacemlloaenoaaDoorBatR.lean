/- The walks of package batch: height, Rows. -/
import Derived.Test.YtiacemlloaenoaaDoorRowsM
namespace Go.Proofs.YtiacemlloaenoaaDoor
open Go.RowKit
set_option linter.unusedVariables false

/-- How many rows columns have: as many as the shortest. -/
def heightC : List (List Val3) → Nat
  | [] => 0
  | c :: r => r.foldl (fun n x => min n x.length) c.length
theorem heightC_snoc (a : List Val3) (r : List (List Val3)) (x : List Val3) : heightC ((a :: r) ++ [x]) = min (heightC (a :: r)) x.length := by
  show (r ++ [x]).foldl _ _ = _
  rw [List.foldl_append]; rfl
theorem heightC_le : ∀ {l : List (List Val3)} {x : List Val3}, x ∈ l → heightC l ≤ x.length := by
  have key : ∀ (r : List (List Val3)) (n : Nat), r.foldl (fun n x => min n x.length) n ≤ n ∧ ∀ x ∈ r, r.foldl (fun n x => min n x.length) n ≤ x.length := by
    intro r
    induction r with
    | nil => intro n; exact ⟨Nat.le_refl _, fun x hx => by cases hx⟩
    | cons c r ih =>
      intro n
      have := ih (min n c.length)
      refine ⟨Nat.le_trans this.1 (Nat.min_le_left _ _), fun x hx => ?_⟩
      rcases List.mem_cons.1 hx with rfl | hx
      · exact Nat.le_trans this.1 (Nat.min_le_right _ _)
      · exact this.2 x hx
  intro l x hx
  cases l with
  | nil => cases hx
  | cons c r =>
    rcases List.mem_cons.1 hx with rfl | hx
    · exact (key r _).1
    · exact (key r _).2 x hx
/-- The i-th row of columns; all of them. -/
def rowAt (cols : List (List Val3)) (i : Nat) : List Val3 := cols.map fun c => c.getD i (0, 0, ⟨#[]⟩)
def rowsC (cols : List (List Val3)) : List (List Val3) := (List.range (heightC cols)).map (rowAt cols)
def colsOf (ss : List SlV) : List (List Val3) := ss.map (·.l)

/-- Where height's loop stands. -/
def HgI (ss : List SlV) (w : World) (nv iv : Value) (wr : World) : Prop :=
  ∃ k n : Nat, nv = .int .i64 n ∧ iv = .int .i64 k ∧ k ≤ ss.length ∧ n = heightC (colsOf (ss.take (max k 1))) ∧ wr = w
theorem HgI.mk {ss : List SlV} {w wr : World} (x y : Int) (k n : Nat) (hx : x = (n : Int)) (hy : y = (k : Int)) (hk : k ≤ ss.length) (h : n = heightC (colsOf (ss.take (max k 1)))) (hw : wr = w) : HgI ss w (.int .i64 x) (.int .i64 y) wr := by
  subst hx hy; exact ⟨k, n, rfl, rfl, hk, h, hw⟩
set_option maxRecDepth 100000 in
theorem height_any (A : Option Addr) (n c : Nat) (ss : List SlV) (w : World) (hn : n = ss.length) (hl : n ≤ 100000) (hr : RowsAt w A ss) (hb : ∀ s ∈ ss, s.l.length ≤ 100000) :
    Calls Tryd.prog 30 #[.slice A n c] w fun e w' => e = .returned (.int .i64 (heightC (colsOf ss))) ∧ w = w' := by
  have HN := Lib.hid hn
  clear hn
  by_cases h0 : n = 0
  · have hs : ss = [] := List.eq_nil_of_length_eq_zero (by have := HN.out; omega)
    subst h0 hs
    go_enter Tryd.func30, Tryd.ntmps30
    go_wp2_with fail
    go_ret
    exact ⟨rfl, rfl⟩
  · have h1 : 0 < ss.length := by have := HN.out; omega
    obtain ⟨b, off, rfl, c0, _⟩ := hr.get 0 h1
    have hn0 : ((n : Int) == 0) = false := by rw [beq_eq_false_iff_ne]; omega
    have hn1 : (0 : Int) < (n : Int) := by omega
    have HR := Lib.hid hr
    have HB := Lib.hid hb
    have HI0 := Lib.hid (HgI.mk (ss := ss) (w := w) (wr := w) (ss[0].l.length : Int) 0 0 ss[0].l.length rfl rfl (Nat.zero_le _) (by
      rcases ss with _ | ⟨s, r⟩
      · simp at h1
      · simp [colsOf, heightC]) rfl)
    rw [Nat.add_zero] at c0
    generalize ss[0].a = a0 at c0
    generalize ss[0].c = cc0 at c0
    generalize ss[0].l.length = l0 at c0 HI0
    clear hr hb
    go_enter Tryd.func30, Tryd.ntmps30
    go_wp2_with fail
    go_loopw [3, 15] (fun nv iv wr => HgI ss w nv iv wr) (fun _ i _ => n - (intOf i).toNat)
    case atStart => exact HI0.out
    case round =>
      obtain ⟨k, m, rfl, rfl, hk, hm, rfl⟩ := hrel
      by_cases hlt : k < n
      · have hkl : k < ss.length := by have := HN.out; omega
        obtain ⟨b', off', hA, ck, _⟩ := HR.out.get k hkl
        injection hA with hA
        injection hA with h1' h2'
        subst h1' h2'
        have hlk := HB.out _ (List.getElem_mem hkl)
        have hmb : m ≤ 100000 := by
          rw [hm]
          have hmem : (ss[0]'(by omega)).l ∈ colsOf (ss.take (max k 1)) := by
            unfold colsOf
            refine List.mem_map.2 ⟨ss[0]'(by omega), ?_, rfl⟩
            rw [List.mem_take_iff_getElem]
            exact ⟨0, by omega, rfl⟩
          exact Nat.le_trans (heightC_le hmem) (HB.out _ (List.getElem_mem (by omega)))
        have HM := Lib.hid (show min m ss[k].l.length = heightC (colsOf (ss.take (max (k + 1) 1))) by
          rw [show max (k + 1) 1 = k + 1 by omega]
          rcases ss with _ | ⟨s, r⟩
          · simp at hkl
          · rcases Nat.eq_zero_or_pos k with rfl | hp
            · have : m = s.l.length := by rw [hm]; simp [colsOf, heightC]
              rw [this]
              simp [colsOf, heightC]
            · rw [List.take_succ_eq_append_getElem hkl]
              unfold colsOf
              rw [List.map_append]
              rw [show max k 1 = k by omega] at hm
              obtain ⟨k', rfl⟩ : ∃ k', k = k' + 1 := ⟨k - 1, by omega⟩
              rw [List.take_succ_cons] at hm ⊢
              unfold colsOf at hm
              rw [List.map_cons] at hm
              rw [List.map_cons, List.map_singleton, heightC_snoc, ← hm])
        clear hm
        generalize ss[k].a = ak at ck
        generalize ss[k].c = cck at ck
        generalize ss[k].l.length = lk at ck HM hlk
        by_cases hmin : m ≤ lk
        · have hmi : (m : Int) ≤ (lk : Int) := by omega
          have HM2 := Lib.hid (show m = heightC (colsOf (ss.take (max (k + 1) 1))) by rw [← HM.out]; omega)
          clear HM
          go_wp2_with fail
          all_goals go_roundw
          all_goals first
            | exact HgI.mk _ _ (k + 1) m (by omega) (by omega) hkl HM2.out rfl
            | (simp [intOf]; omega)
        · have hmi : (lk : Int) < (m : Int) := by omega
          have HM2 := Lib.hid (show lk = heightC (colsOf (ss.take (max (k + 1) 1))) by rw [← HM.out]; omega)
          clear HM
          go_wp2_with fail
          all_goals go_roundw
          all_goals first
            | exact HgI.mk _ _ (k + 1) lk (by omega) (by omega) hkl HM2.out rfl
            | (simp [intOf]; omega)
      · have HE := Lib.hid (show m = heightC (colsOf ss) by
          have : k = ss.length := by have := HN.out; omega
          subst this
          rw [show max ss.length 1 = ss.length by omega, List.take_length] at hm
          exact hm)
        clear hm
        go_wp2_with fail
        go_ret
        rw [← HE.out]
        exact ⟨rfl, rfl⟩

/-- What Rows gives. -/
def RowsP (L : List (List Val3)) (w : World) (e : Ending) (w' : World) : Prop :=
  ∃ (A : Option Addr) (c : Nat) (rs : List SlV), e = .returned (.slice A rs.length c) ∧ rs.map (·.l) = L ∧ RowsAt w' A rs ∧ rs.length ≤ c ∧ c ≤ 9223372036854775807 ∧ (A = none → c = 0) ∧ Later w w'
/-- Where the outer loop stands: so many rows are made. -/
def RoI (cols : List (List Val3)) (w : World) (rv iv : Value) (wr : World) : Prop :=
  ∃ (k : Nat) (A : Option Addr) (n c : Nat) (rs : List SlV), rv = .slice A n c ∧ iv = .int .i64 k ∧ k ≤ heightC cols ∧ rs.map (·.l) = (List.range k).map (rowAt cols) ∧ RowsOn w.heap.size wr A n c rs ∧ Later w wr
theorem RoI.mk {cols : List (List Val3)} {w wr : World} (y : Int) (k : Nat) (A : Option Addr) (n c : Nat) (rs : List SlV) (hy : y = (k : Int)) (hk : k ≤ heightC cols) (h : rs.map (·.l) = (List.range k).map (rowAt cols)) (ho : RowsOn w.heap.size wr A n c rs) (L : Later w wr) : RoI cols w (.slice A n c) (.int .i64 y) wr := by
  subst hy; exact ⟨k, A, n, c, rs, rfl, rfl, hk, h, ho, L⟩
/-- Where the inner loop stands: so many columns are done. -/
def RiI (cols : List (List Val3)) (i : Nat) (ws : World) (rv jv : Value) (wr : World) : Prop :=
  ∃ (j : Nat) (R : Option Addr) (rn rc : Nat), rv = .slice R rn rc ∧ jv = .int .i64 j ∧ j ≤ cols.length ∧ rn = j ∧ wr.ownsRow ws.heap.size 40 3 (.slice R rn rc) rn (fl ((rowAt cols i).take j)) ∧ (R = none → rc = 0) ∧ Later ws wr
theorem RiI.mk {cols : List (List Val3)} {i : Nat} {ws wr : World} (y : Int) (j : Nat) (R : Option Addr) (rn rc : Nat) (hy : y = (j : Int)) (hj : j ≤ cols.length) (hrn : rn = j) (ho : wr.ownsRow ws.heap.size 40 3 (.slice R rn rc) rn (fl ((rowAt cols i).take j))) (hnil : R = none → rc = 0) (L : Later ws wr) : RiI cols i ws (.slice R rn rc) (.int .i64 y) wr := by
  subst hy; exact ⟨j, R, rn, rc, rfl, rfl, hj, hrn, ho, hnil, L⟩
theorem rowAt_len (cols : List (List Val3)) (i : Nat) : (rowAt cols i).length = cols.length := List.length_map _
theorem rowAt_get (cols : List (List Val3)) (i j : Nat) (h : j < cols.length) : (rowAt cols i)[j]'(by rw [rowAt_len]; exact h) = cols[j].getD i (0, 0, ⟨#[]⟩) := by simp [rowAt]

set_option maxRecDepth 100000 in
set_option maxHeartbeats 4000000 in
theorem batchRows_any (A : Option Addr) (n c : Nat) (ss : List SlV) (w : World) (hn : n = ss.length) (hl : n ≤ 1000) (hr : RowsAt w A ss) (hb : ∀ s ∈ ss, s.l.length ≤ 1000) :
    Calls Tryd.prog 22 #[.slice A n c] w (RowsP (rowsC (colsOf ss)) w) := by
  have HH := Lib.hid (height_any A n c ss w hn (by omega) hr (fun s hs => by have := hb s hs; omega))
  have hhb : heightC (colsOf ss) ≤ 1000 := by
    rcases ss with _ | ⟨s, r⟩
    · simp [colsOf, heightC]
    · exact Nat.le_trans (heightC_le (x := s.l) (by simp [colsOf])) (hb s (by simp))
  have HCL := Lib.hid (show n = (colsOf ss).length by rw [hn]; simp [colsOf])
  have HN := Lib.hid hn
  have HR := Lib.hid hr
  have HB := Lib.hid hb
  have hlen : ∀ k (h : k < ss.length), heightC (colsOf ss) ≤ ss[k].l.length := fun k h => heightC_le (List.mem_map.2 ⟨ss[k], List.getElem_mem h, rfl⟩)
  have HLEN := Lib.hid hlen
  have HGET := Lib.hid (fun (i j : Nat) (h : j < ss.length) => show (rowAt (colsOf ss) i)[j]? = some (ss[j].l.getD i (0, 0, ⟨#[]⟩)) by
    unfold rowAt colsOf
    rw [List.getElem?_map, List.getElem?_map, List.getElem?_eq_getElem h]; rfl)
  obtain ⟨cols, hcols⟩ : ∃ x, colsOf ss = x := ⟨_, rfl⟩
  simp only [hcols] at HH hhb HCL HLEN HGET
  rw [hcols]
  obtain ⟨ht, hht⟩ : ∃ x, heightC cols = x := ⟨_, rfl⟩
  rw [hht] at HH hhb HLEN
  have HHT := Lib.hid hht
  have HI0 := Lib.hid (RoI.mk (cols := cols) (w := w) (wr := w) 0 0 none 0 0 [] rfl (Nat.zero_le _) rfl (RowsOn.nil_ _ _) (Later.refl _))
  clear hn hr hb hlen hcols hht
  go_enter Tryd.func22, Tryd.ntmps22
  go_wp2_with fail
  refine HH.out.mono ?_
  rintro e wX ⟨rfl, rfl⟩
  clear HH
  go_wp2_with fail
  go_loopw [3, 10] (fun rv iv wr => RoI cols w rv iv wr) (fun _ i _ => ht - (intOf i).toNat)
  case atStart => exact HI0.out
  case round =>
    obtain ⟨k, V, vn, vc, rs, rfl, rfl, hk, hrs, hon, lat⟩ := hrel
    have HRS := Lib.hid hrs
    have HON := Lib.hid hon
    have HLAT := Lib.hid lat
    clear HI0 hrs hon
    have hvn : vn ≤ 1000 := by
      have h1 := HON.out.1
      have h2 := congrArg List.length HRS.out
      rw [List.length_map, List.length_map, List.length_range] at h2
      have := HHT.out
      omega
    by_cases hlt : k < ht
    · obtain ⟨ws, hws⟩ : ∃ x, x = wr := ⟨_, rfl⟩
      subst hws
      have HJ0 := Lib.hid (RiI.mk (cols := cols) (i := k) (ws := ws) (wr := ws) 0 0 none 0 0 rfl (Nat.zero_le _) rfl (by rw [List.take_zero]; exact ownG_nil _ _ _ _) (fun _ => rfl) (Later.refl _))
      clear lat
      go_wp2_with fail
      go_loopw [5, 15] (fun rv jv wr => RiI cols k ws rv jv wr) (fun _ j _ => n - (intOf j).toNat)
      case atStart => exact HJ0.out
      case round =>
        obtain ⟨j, R, rn, rc, rfl, rfl, hj, hrn, hown, hnil, lat2⟩ := hrel
        have HOWN := Lib.hid hown
        have HLAT2 := Lib.hid lat2
        have HNIL := Lib.hid hnil
        have HRNJ := Lib.hid hrn
        have hrnb : rn ≤ 1000 := by have := HCL.out; omega
        clear hown hnil hrn
        by_cases hlj : j < n
        · have hjs : j < ss.length := by have := HN.out; omega
          obtain ⟨b, off, hA, ck, hhas, _, _, _⟩ := (HR.out.later (HLAT.out.trans lat2)).get j hjs
          subst hA
          have hle := HLEN.out j hjs
          obtain ⟨cb, coff, hCA, v0, v1, v2⟩ := hhas.val3 k (by omega)
          have hgd := HGET.out k j hjs
          rw [List.getD_eq_getElem?_getD, List.getElem?_eq_getElem (show k < ss[j].l.length by omega), Option.getD_some] at hgd
          have hjc : j < cols.length := by have := HCL.out; omega
          have HT := Lib.hid (show (rowAt cols k).take (j + 1) = (rowAt cols k).take j ++ [ss[j].l[k]] by
            rw [List.take_add_one, hgd]; rfl)
          generalize ss[j].l[k] = x at v0 v1 v2 HT
          obtain ⟨t, i, s⟩ := x
          dsimp only at v0 v1 v2
          rw [hCA] at ck
          have hkl : (k : Int) < (ss[j].l.length : Int) := by omega
          have hkl2 : k < ss[j].l.length := by omega
          generalize ss[j].c = cc at ck
          generalize ss[j].l.length = ln at ck hkl hkl2
          have HBK := Lib.hid (fun (wz : World) => Blk.new wz #[.int .i64 t, .int .i64 i, .string s] 40 wz.heap.size rfl)
          have HOA := Lib.hid (fun (o : Obj) => own_later HOWN.out (Later.new wr o))
          clear hgd hle hhas hCA HLEN
          have HSZ := Lib.hid (show ws.heap.size ≤ wr.heap.size from HLAT2.out.size)
          go_wp2_with (at_builtin; refine wpList_append_g _ rfl (.tmp 19) (.tmp 24) 48 rfl ws.heap.size 40 _ 3 32 Tryd.underlying48 info_v rfl (by decide) _ rn _ rfl (HOA.out _) _ 1 1 (fl [(t, i, s)]) rfl (HBK.out wr).has rfl (by intro h; cases h) (fl_one _) (by unfold maxLen; omega) (by omega) (by have := HSZ.out; simp; omega) ?_; rintro A' c' wq hO _ hbel hn2; have HO2 := Lib.hid hO; have HN2 := Lib.hid hn2; have HL2 := Lib.hid (Later.of ((HLAT2.out.alloc _).below.trans hbel)); clear hO hn2 hbel)
          go_roundw
          all_goals first
            | exact RiI.mk _ (j + 1) _ _ _ (by omega) (by omega) (by have := HRNJ.out; omega) (by rw [HT.out, fl_append]; exact HO2.out) HN2.out HL2.out
            | (simp [intOf]; omega)
        · have hjn : j = cols.length := by have := HCL.out; omega
          have HOK := Lib.hid (show (⟨R, rc, rowAt cols k⟩ : SlV).okX (Value.slice V vn vc).ownBlock wr by
            have ho := HOWN.out
            rw [List.take_of_length_le (by rw [rowAt_len]; omega)] at ho
            refine SlV.okX.own ho ?_ HNIL.out fun g hg => (HON.out.2.1.lt g hg).2
            have := HRNJ.out
            rw [rowAt_len]; omega)
          have HRL := Lib.hid (show (⟨R, rc, rowAt cols k⟩ : SlV).v = .slice R rn rc by
            rw [SlV.v_eq]
            have := HRNJ.out
            rw [rowAt_len]
            congr 1
            omega)
          have HON2 := Lib.hid (HON.out.later lat2)
          have HLW := Lib.hid (HLAT.out.trans lat2)
          have HBK := Lib.hid (fun (wz : World) => Blk.new wz #[.slice R rn rc] 48 wz.heap.size rfl)
          have HOA := Lib.hid (fun (o : Obj) => HON2.out.later (Later.new wr o))
          have HOKA := Lib.hid (fun (o : Obj) => HOK.out.later (Later.new wr o))
          have HSZ := Lib.hid (show w.heap.size ≤ wr.heap.size from HLW.out.size)
          clear hjn lat2
          go_wp2_with (at_builtin; refine wpList_append_x _ rfl (.tmp 27) (.tmp 29) 44 rfl w.heap.size 48 _ 1 24 Tryd.underlying44 info_row rfl (by decide) _ vn _ rfl (HOA.out _).2.1 _ 0 1 1 [.slice R rn rc] rfl (HBK.out wr).has rfl (by intro u hu; rw [List.mem_singleton] at hu; subst hu; rfl) (by unfold maxLen; omega) (by omega) (by have := HSZ.out; simp; omega) ?_; rintro A' c' wq hO hgr hbel hat hn2; have HO2 := Lib.hid (RowsOn.more (s := ⟨R, rc, rowAt cols k⟩) (HOA.out _) (HOKA.out _) (by rw [HRL.out]; exact hO) hgr hat hn2); have HL2 := Lib.hid (Later.of ((HLW.out.alloc _).below.trans hbel)); clear hO hn2 hbel hgr hat)
          go_roundw
          all_goals first
            | exact RoI.mk _ (k + 1) _ _ _ _ (by omega) (by have := HHT.out; omega) (by rw [List.map_append, HRS.out, List.range_succ, List.map_append]; rfl) HO2.out HL2.out
            | (simp [intOf]; omega)
    · have HF := Lib.hid (show rs.map (·.l) = rowsC cols by
        rw [HRS.out]; unfold rowsC
        rw [show k = heightC cols by have := HHT.out; omega])
      go_wp2_with fail
      go_ret
      have hat := HON.out.at_
      exact ⟨V, vc, rs, by rw [HON.out.1]; rfl, HF.out, hat.1, by rw [← HON.out.1]; exact hat.2.1, hat.2.2, HON.out.2.2.2, HLAT.out⟩
end Go.Proofs.YtiacemlloaenoaaDoor
