/- batch.Pick. -/
import Derived.Test.YtlfmmhbaphnifaaRRRRGreatDoorBagM
import Derived.Test.YtlfmmhbaphnifaaRRRRGreatDoorRis
import Derived.Deep.RegionHeld3
namespace Go.Proofs.YtlfmmhbaphnifaaRRRRGreatDoor
open Go.RowKit
set_option linter.unusedVariables false

/-- Columns on their way (RowsOn, of another element type). -/
def ColsOn (base : Nat) (w : World) (A : Option Addr) (n c : Nat) (ss : List SlV) : Prop :=
  n = ss.length ∧ w.ownsRow base 26 1 (.slice A n c) n (ss.map SlV.v) ∧ (∀ s ∈ ss, s.okX (Value.slice A n c).ownBlock w) ∧ (A = none → c = 0)
theorem ColsOn.later {base : Nat} {w w' : World} {A : Option Addr} {n c : Nat} {ss : List SlV} (h : ColsOn base w A n c ss) (l : Later w w') : ColsOn base w' A n c ss := ⟨h.1, own_later h.2.1 l, fun s hs => (h.2.2.1 s hs).later l, h.2.2.2⟩
theorem ColsOn.at_ {base : Nat} {w : World} {A : Option Addr} {n c : Nat} {ss : List SlV} (h : ColsOn base w A n c ss) : RowsAt w A ss ∧ n ≤ c ∧ c ≤ 9223372036854775807 :=
  ⟨⟨Has.own h.2.1, fun s hs => ⟨(h.2.2.1 s hs).1.weak, (h.2.2.1 s hs).2⟩⟩, ownG_cap h.2.1, ownG_capmax h.2.1⟩
theorem ColsOn.nil_ (base : Nat) (w : World) : ColsOn base w none 0 0 [] := ⟨rfl, ownG_nil _ _ _ _, (fun s hs => by cases hs), fun _ => rfl⟩
theorem ColsOn.more {base : Nat} {w w' : World} {A A' : Option Addr} {n c c' : Nat} {ss : List SlV} {s : SlV} (h : ColsOn base w A n c ss)
    (hs : s.okX (Value.slice A n c).ownBlock w) (ho : w'.ownsRow base 26 1 (.slice A' (n + 1) c') (n + 1) (ss.map SlV.v ++ [s.v])) (g : w.grownBy w' (Value.slice A n c).ownBlock) (hat : (Value.slice A' (n + 1) c').ownBlock = (Value.slice A n c).ownBlock ∨ (Value.slice A' (n + 1) c').ownBlock = some w.heap.size) (hn : A' = none → c' = 0) : ColsOn base w' A' (n + 1) c' (ss ++ [s]) := by
  refine ⟨by rw [List.length_append, ← h.1]; rfl, ?_, fun x hx => ?_, hn⟩
  · rw [List.map_append]; exact ho
  · rcases List.mem_append.1 hx with hx | hx
    · exact (h.2.2.1 x hx).grown g hat
    · rw [List.mem_singleton] at hx; subst hx; exact hs.grown g hat
theorem info_cv : (Tryz.prog.info? 26).map (fun i => (i.zero, i.size, i.bytes)) = some (some (.slice none 0 0), 1, 24) := by kernel_rfl

/-- Where the outer loop stands: so many columns are picked. -/
def PoI (cols : List (List Val3)) (sel : List Int) (w : World) (rv iv : Value) (wr : World) : Prop :=
  ∃ (k : Nat) (A : Option Addr) (n c : Nat) (rs : List SlV), rv = .slice A n c ∧ iv = .int .i64 k ∧ k ≤ cols.length ∧ rs.map (·.l) = pickC (cols.take k) sel ∧ ColsOn w.heap.size wr A n c rs ∧ Later w wr ∧ ∀ s ∈ rs, ∀ b off, s.a = some ⟨b, off, none⟩ → w.heap.size ≤ b
theorem PoI.mk {cols : List (List Val3)} {sel : List Int} {w wr : World} (y : Int) (k : Nat) (A : Option Addr) (n c : Nat) (rs : List SlV) (hy : y = (k : Int)) (hk : k ≤ cols.length) (h : rs.map (·.l) = pickC (cols.take k) sel) (ho : ColsOn w.heap.size wr A n c rs) (L : Later w wr) (ha : ∀ s ∈ rs, ∀ b off, s.a = some ⟨b, off, none⟩ → w.heap.size ≤ b) : PoI cols sel w (.slice A n c) (.int .i64 y) wr := by
  subst hy; exact ⟨k, A, n, c, rs, rfl, rfl, hk, h, ho, L, ha⟩
/-- Where the inner loop stands: so many places are done. -/
def PiI (c : List Val3) (sel : List Int) (ws : World) (rv jv : Value) (wr : World) : Prop :=
  ∃ (j : Nat) (R : Option Addr) (rn rc : Nat), rv = .slice R rn rc ∧ jv = .int .i64 j ∧ j ≤ sel.length ∧ rn = (pick1 c (sel.take j)).length ∧ wr.ownsRow ws.heap.size 55 3 (.slice R rn rc) rn (fl (pick1 c (sel.take j))) ∧ (R = none → rc = 0) ∧ Later ws wr
theorem PiI.mk {c : List Val3} {sel : List Int} {ws wr : World} (y : Int) (j : Nat) (R : Option Addr) (rn rc : Nat) (hy : y = (j : Int)) (hj : j ≤ sel.length) (hrn : rn = (pick1 c (sel.take j)).length) (ho : wr.ownsRow ws.heap.size 55 3 (.slice R rn rc) rn (fl (pick1 c (sel.take j)))) (hnil : R = none → rc = 0) (L : Later ws wr) : PiI c sel ws (.slice R rn rc) (.int .i64 y) wr := by
  subst hy; exact ⟨j, R, rn, rc, rfl, rfl, hj, hrn, ho, hnil, L⟩
theorem pick_yes {c : List Val3} {sel : List Int} {j : Nat} (hj : j < sel.length) {z : Int} (hz : sel[j] = z) (h0 : 0 ≤ z) (hl : z.toNat < c.length) : pick1 c (sel.take (j + 1)) = pick1 c (sel.take j) ++ [c[z.toNat]] := by
  subst hz
  rw [List.take_succ_eq_append_getElem hj, pick1_snoc, if_pos h0, List.getElem?_eq_getElem hl]; rfl
theorem pick_yesN {c : List Val3} {sel : List Int} {j q : Nat} (hj : j < sel.length) (hz : sel[j] = (q : Int)) (hq : q < c.length) : pick1 c (sel.take (j + 1)) = pick1 c (sel.take j) ++ [c[q]] := by
  have := pick_yes (c := c) hj hz (by omega) (by simpa using hq)
  simpa using this
theorem pick_no {c : List Val3} {sel : List Int} {j : Nat} (hj : j < sel.length) {z : Int} (hz : sel[j] = z) (h : ¬ (0 ≤ z ∧ z < (c.length : Int))) : pick1 c (sel.take (j + 1)) = pick1 c (sel.take j) := by
  subst hz
  rw [List.take_succ_eq_append_getElem hj, pick1_snoc]
  by_cases h0 : 0 ≤ sel[j]
  · rw [if_pos h0, List.getElem?_eq_none (by omega)]; simp
  · rw [if_neg h0]; simp
/-- What Pick gives. -/
def PickP (L : List (List Val3)) (w : World) (e : Ending) (w' : World) : Prop :=
  ∃ (A : Option Addr) (c : Nat) (rs : List SlV), e = .returned (.slice A rs.length c) ∧ rs.map (·.l) = L ∧ RowsAt w' A rs ∧ rs.length ≤ c ∧ c ≤ 9223372036854775807 ∧ (A = none → c = 0) ∧ Later w w' ∧ (∀ b off, A = some ⟨b, off, none⟩ → w.heap.size ≤ b) ∧ ∀ s ∈ rs, ∀ b off, s.a = some ⟨b, off, none⟩ → w.heap.size ≤ b

set_option maxRecDepth 100000 in
set_option maxHeartbeats 4000000 in
theorem pick_any (A B : Option Addr) (n c m d : Nat) (ss : List SlV) (sel : List Int) (w : World) (hn : n = ss.length) (hm : m = sel.length) (hl : n ≤ 1000) (hl2 : m ≤ 1000) (hr : RowsAt w A ss) (hb : ∀ s ∈ ss, s.l.length ≤ 1000) (hs : Has w B (zin sel)) :
    Calls Tryz.prog 14 #[.slice A n c, .slice B m d] w (PickP (pickC (colsOf ss) sel) w) := by
  have HN := Lib.hid hn
  have HM := Lib.hid hm
  have HR := Lib.hid hr
  have HB := Lib.hid hb
  have HS := Lib.hid hs
  have HCL := Lib.hid (show n = (colsOf ss).length by rw [hn]; simp [colsOf])
  have HGC := Lib.hid (fun (k : Nat) (h : k < ss.length) => show (colsOf ss)[k]? = some ss[k].l by unfold colsOf; rw [List.getElem?_map, List.getElem?_eq_getElem h]; rfl)
  obtain ⟨cols, hcols⟩ : ∃ x, colsOf ss = x := ⟨_, rfl⟩
  rw [hcols] at HCL HGC ⊢
  have HI0 := Lib.hid (PoI.mk (cols := cols) (sel := sel) (w := w) (wr := w) 0 0 none 0 0 [] rfl (Nat.zero_le _) rfl (ColsOn.nil_ _ _) (Later.refl _) (fun s hs => by cases hs))
  clear hn hm hr hb hs hcols
  go_enter Tryz.func14, Tryz.ntmps14
  go_wp2_with fail
  go_loopw [5, 13] (fun rv iv wr => PoI cols sel w rv iv wr) (fun _ i _ => n - (intOf i).toNat)
  case atStart => exact HI0.out
  case round =>
    obtain ⟨k, V, vn, vc, rs, rfl, rfl, hk, hrs, hon, lat, habv⟩ := hrel
    have HABV := Lib.hid habv
    clear habv
    have HRS := Lib.hid hrs
    have HON := Lib.hid hon
    have HLAT := Lib.hid lat
    clear HI0 hrs hon
    have hvn : vn ≤ 1000 := by
      have h1 := HON.out.1
      have h2 := congrArg List.length HRS.out
      unfold pickC at h2
      rw [List.length_map, List.length_map, List.length_take] at h2
      have := HCL.out
      omega
    by_cases hlt : k < n
    · have hks : k < ss.length := by have := HN.out; omega
      obtain ⟨b0, o0, hA0, ck0, hh0, _⟩ := HR.out.get k hks
      subst hA0
      have hbl := HB.out _ (List.getElem_mem hks)
      have HCK := Lib.hid (show cols[k]? = some ss[k].l from HGC.out k hks)
      have HHH := Lib.hid (hh0.later lat)
      have ck := lat.cell ck0
      obtain ⟨col, hcol⟩ : ∃ x, ss[k].l = x := ⟨_, rfl⟩
      rw [hcol] at HCK HHH ck hbl
      generalize ss[k].a = ca at ck HHH
      generalize ss[k].c = cc at ck
      obtain ⟨cl, hcl⟩ : ∃ x, col.length = x := ⟨_, rfl⟩
      have HCLN := Lib.hid hcl
      rw [hcl] at ck hbl
      obtain ⟨ws, hws⟩ : ∃ x, x = wr := ⟨_, rfl⟩
      subst hws
      have HJ0 := Lib.hid (PiI.mk (c := col) (sel := sel) (ws := ws) (wr := ws) 0 0 none 0 0 rfl (Nat.zero_le _) rfl (ownG_nil _ _ _ _) (fun _ => rfl) (Later.refl _))
      clear lat hh0 ck0 hcol hcl
      go_wp2_with fail
      go_loopw [8, 19] (fun rv jv wr => PiI col sel ws rv jv wr) (fun _ j _ => m - (intOf j).toNat)
      case atStart => exact HJ0.out
      case round =>
        obtain ⟨j, R, rn, rc, rfl, rfl, hj, hrn, hown, hnil, lat2⟩ := hrel
        have HOWN := Lib.hid hown
        have HLAT2 := Lib.hid lat2
        have HNIL := Lib.hid hnil
        have HRN := Lib.hid hrn
        have hrnb : rn ≤ 1000 := by have := pick1_len col (sel.take j); rw [List.length_take] at this; have := HM.out; omega
        clear hown hnil hrn ck HJ0
        by_cases hlj : j < m
        · have hjs : j < sel.length := by have := HM.out; omega
          obtain ⟨sb, so, hSB, cs⟩ := (HS.out.later (HLAT.out.trans lat2)).zat j hjs
          subst hSB
          obtain ⟨z, hz⟩ : ∃ z, sel[j] = z := ⟨_, rfl⟩
          rw [hz] at cs
          have HZ := Lib.hid hz
          clear hz
          by_cases hin : 0 ≤ z ∧ z < (cl : Int)
          · obtain ⟨q, rfl⟩ := Int.eq_ofNat_of_zero_le hin.1
            have hq : q < col.length := by have := HCLN.out; omega
            obtain ⟨cb, coff, hCA, v0, v1, v2⟩ := (HHH.out.later lat2).val3 q hq
            subst hCA
            have HT := Lib.hid (pick_yesN (c := col) hjs HZ.out hq)
            have hzl : (q : Int) < (cl : Int) := hin.2
            have hz0 : (0 : Int) ≤ (q : Int) := hin.1
            generalize col[q] = x at v0 v1 v2 HT
            obtain ⟨t, i, s⟩ := x
            dsimp only at v0 v1 v2
            have HBK := Lib.hid (fun (wz : World) => Blk.new wz #[.int .i64 t, .int .i64 i, .string s] 55 wz.heap.size rfl)
            have HOA := Lib.hid (fun (o : Obj) => own_later HOWN.out (Later.new wr o))
            have HSZ := Lib.hid (show ws.heap.size ≤ wr.heap.size from HLAT2.out.size)
            clear hin lat2 hq
            go_wp2_with (at_builtin; refine wpList_append_g _ rfl (.tmp 31) (.tmp 36) 26 rfl ws.heap.size 55 _ 3 32 Tryz.underlying26 info_v rfl (by decide) _ rn _ rfl (HOA.out _) _ 1 1 (fl [(t, i, s)]) rfl (HBK.out wr).has rfl (by intro h; cases h) (fl_one _) (by unfold maxLen; omega) (by omega) (by have := HSZ.out; simp; omega) ?_; rintro A' c' wq hO _ hbel hn2; have HO2 := Lib.hid hO; have HN2 := Lib.hid hn2; have HL2 := Lib.hid (Later.of ((HLAT2.out.alloc _).below.trans hbel)); clear hO hn2 hbel)
            all_goals go_roundw
            all_goals first
              | exact PiI.mk _ (j + 1) _ _ _ (by omega) (by omega) (by rw [HT.out, List.length_append, ← HRN.out]; rfl) (by rw [HT.out, fl_append]; exact HO2.out) HN2.out HL2.out
              | (simp [intOf]; omega)
          · have HT := Lib.hid (pick_no (c := col) hjs HZ.out (by rw [HCLN.out]; exact hin))
            by_cases h0 : 0 ≤ z
            · have hzl : ¬ z < (cl : Int) := fun h => hin ⟨h0, h⟩
              have hzl2 : (cl : Int) ≤ z := by omega
              clear hin lat2
              go_wp2_with fail
              all_goals go_roundw
              all_goals first
                | exact PiI.mk _ (j + 1) _ _ _ (by omega) (by omega) (by rw [HT.out]; exact HRN.out) (by rw [HT.out]; exact HOWN.out) HNIL.out HLAT2.out
                | (simp [intOf]; omega)
            · have hz1 : z < 0 := by omega
              clear hin lat2 h0
              go_wp2_with fail
              all_goals go_roundw
              all_goals first
                | exact PiI.mk _ (j + 1) _ _ _ (by omega) (by omega) (by rw [HT.out]; exact HRN.out) (by rw [HT.out]; exact HOWN.out) HNIL.out HLAT2.out
                | (simp [intOf]; omega)
        · have HFUL := Lib.hid (show sel.take j = sel by rw [List.take_of_length_le (by have := HM.out; omega)])
          have HOK := Lib.hid (show (⟨R, rc, pick1 col sel⟩ : SlV).okX (Value.slice V vn vc).ownBlock wr by
            have ho := HOWN.out
            rw [HFUL.out] at ho
            exact SlV.okX.own ho (by rw [HRN.out, HFUL.out]) HNIL.out fun g hg => (HON.out.2.1.lt g hg).2)
          have HAB2 := Lib.hid (show ∀ s ∈ rs ++ [(⟨R, rc, pick1 col sel⟩ : SlV)], ∀ b off, s.a = some ⟨b, off, none⟩ → w.heap.size ≤ b from fun s hs b off hb => by
            rcases List.mem_append.1 hs with hs | hs
            · exact HABV.out s hs b off hb
            · rw [List.mem_singleton] at hs
              subst hs
              have hb' : R = some ⟨b, off, none⟩ := hb
              have ho := HOWN.out
              rw [hb'] at ho
              have h1 := (ho.lt b rfl).1
              have := HLAT.out.size
              omega)
          have HRL := Lib.hid (show (⟨R, rc, pick1 col sel⟩ : SlV).v = .slice R rn rc by
            rw [SlV.v_eq, HRN.out, HFUL.out])
          have HON2 := Lib.hid (HON.out.later lat2)
          have HLW := Lib.hid (HLAT.out.trans lat2)
          have HBK := Lib.hid (fun (wz : World) => Blk.new wz #[.slice R rn rc] 26 wz.heap.size rfl)
          have HOA := Lib.hid (fun (o : Obj) => HON2.out.later (Later.new wr o))
          have HOKA := Lib.hid (fun (o : Obj) => HOK.out.later (Later.new wr o))
          have HSZ := Lib.hid (show w.heap.size ≤ wr.heap.size from HLW.out.size)
          have HPK := Lib.hid (show pickC (cols.take (k + 1)) sel = pickC (cols.take k) sel ++ [pick1 col sel] by
            unfold pickC
            rw [List.take_add_one, HCK.out, List.map_append]; rfl)
          clear lat2
          go_wp2_with (at_builtin; refine wpList_append_x _ rfl (.tmp 39) (.tmp 41) 39 rfl w.heap.size 26 _ 1 24 Tryz.underlying39 info_cv rfl (by decide) _ vn _ rfl (HOA.out _).2.1 _ 0 1 1 [.slice R rn rc] rfl (HBK.out wr).has rfl (by intro u hu; rw [List.mem_singleton] at hu; subst hu; rfl) (by unfold maxLen; omega) (by omega) (by have := HSZ.out; simp; omega) ?_; rintro A' c' wq hO hgr hbel hat hn2; have HO2 := Lib.hid (ColsOn.more (s := ⟨R, rc, pick1 col sel⟩) (HOA.out _) (HOKA.out _) (by rw [HRL.out]; exact hO) hgr hat hn2); have HL2 := Lib.hid (Later.of ((HLW.out.alloc _).below.trans hbel)); clear hO hn2 hbel hgr hat)
          go_roundw
          all_goals first
            | exact PoI.mk _ (k + 1) _ _ _ _ (by omega) (by have := HCL.out; omega) (by rw [List.map_append, HRS.out, HPK.out]; rfl) HO2.out HL2.out HAB2.out
            | (simp [intOf]; omega)
    · have HF := Lib.hid (show rs.map (·.l) = pickC cols sel by
        rw [HRS.out, List.take_of_length_le (by have := HCL.out; omega)])
      clear lat
      go_wp2_with fail
      go_ret
      have hat := HON.out.at_
      exact ⟨V, vc, rs, by rw [HON.out.1]; rfl, HF.out, hat.1, by rw [← HON.out.1]; exact hat.2.1, hat.2.2, HON.out.2.2.2, HLAT.out, fun b off hb => by
        have ho := HON.out.2.1
        rw [hb] at ho
        exact (ho.lt b rfl).1, HABV.out⟩
end Go.Proofs.YtlfmmhbaphnifaaRRRRGreatDoor
