/- The document's Pick. (tools/gen_rpick.py) -/
import Derived.Test.YtlfmmhbaphnifaaRRRRGreatDoorBatC
import Derived.Test.YtlfmmhbaphnifaaRRRRGreatDoorPick
namespace Go.Proofs.YtlfmmhbaphnifaaRRRRGreatDoor
open Go.RowKit
set_option linter.unusedVariables false

/-- A table of columns, what each holds by now. -/
def TabP (P : Nat → List Val3) (W : Nat) (ss : List SlG) : Prop := ss.length = W ∧ ∀ j (h : j < ss.length), ss[j].cs = fl (P j) ∧ ss[j].n = (P j).length
theorem TabP.new (W : Nat) : TabP (fun _ => []) W (List.replicate W SlG.nil) := by
  refine ⟨List.length_replicate, fun k hk => ?_⟩
  rw [List.getElem_replicate]
  exact ⟨rfl, rfl⟩
theorem TabP.ext {P P' : Nat → List Val3} {W : Nat} {ss : List SlG} (h : TabP P W ss) (e : ∀ k, k < W → P k = P' k) : TabP P' W ss := ⟨h.1, fun k hk => by rw [← e k (by rw [← h.1]; exact hk)]; exact h.2 k hk⟩
theorem TabP.put {P : Nat → List Val3} {W : Nat} {ss : List SlG} (h : TabP P W ss) (k : Nat) (hk : k < ss.length) (s' : SlG) (x : Val3) (hc : s'.cs = ss[k].cs ++ fl [x]) (hn : s'.n = (P k).length + 1) :
    TabP (fun j => if j = k then P k ++ [x] else P j) W (ss.set k s') := by
  refine ⟨by rw [List.length_set]; exact h.1, fun j hj => ?_⟩
  rw [List.length_set] at hj
  rw [List.getElem_set]
  dsimp only
  by_cases e : k = j
  · subst e
    rw [if_pos rfl, if_pos rfl, hc, (h.2 k hk).1, fl_append, List.length_append]
    exact ⟨rfl, hn⟩
  · rw [if_neg e, if_neg (fun h : j = k => e h.symm)]; exact h.2 j hj
theorem TabP.step {T : TypeId} {P : Nat → List Val3} {W : Nat} {ss : List SlG} {g : Nat} {w : World} (h : TabP P W ss) (ht : Tab T 55 3 w g ss) (k : Nat) (hk : k < W) (x : Val3) :
    ∃ A c, w.cell? ⟨g, k, none⟩ = some (.slice A (P k).length c) ∧ w.ownsRow (g + 1) 55 3 (.slice A (P k).length c) (P k).length (fl (P k)) ∧
      ∀ w1 w2 A' c', Later w w1 → w2.ownsRow (g + 1) 55 3 (.slice A' ((P k).length + 1) c') ((P k).length + 1) (fl (P k) ++ fl [x]) → w1.grownBy w2 (Value.slice A (P k).length c).ownBlock →
        ((Value.slice A' ((P k).length + 1) c').ownBlock = (Value.slice A (P k).length c).ownBlock ∨ (Value.slice A' ((P k).length + 1) c').ownBlock = some w1.heap.size) → (A' = none → c' = 0) →
        ∃ ss', TabP (fun j => if j = k then P k ++ [x] else P j) W ss' ∧ Tab T 55 3 (w2.setCell ⟨g, k, none⟩ (.slice A' ((P k).length + 1) c')) g ss' := by
  have hks : k < ss.length := by rw [h.1]; exact hk
  obtain ⟨hc, hn⟩ := h.2 k hks
  have hcell := ht.cell k hks
  have hown := (ht.own k hks).1
  rw [hn] at hcell hown
  have hv : ss[k].v = .slice ss[k].a (P k).length ss[k].c := by unfold SlG.v; rw [hn]
  rw [hv, hc] at hown
  refine ⟨ss[k].a, ss[k].c, hcell, hown, fun w1 w2 A' c' l ho hg hat hnil => ?_⟩
  rw [← hv] at hg hat
  exact ⟨_, h.put k hks ⟨A', (P k).length + 1, c', fl (P k) ++ fl [x]⟩ x (by rw [hc]) rfl, (ht.later l).put k hks ⟨A', (P k).length + 1, c', fl (P k) ++ fl [x]⟩ ho hnil hg hat⟩
theorem TabP.rows {T : TypeId} {P : Nat → List Val3} {W : Nat} {ss : List SlG} {g : Nat} {w : World} (h : TabP P W ss) (ht : Tab T 55 3 w g ss) :
    ∃ zs : List SlV, zs.length = W ∧ zs.map (·.l) = (List.range W).map P ∧ RowsAt w (some ⟨g, 0, none⟩) zs := by
  obtain ⟨r1, r2, r3⟩ := ht.rows (L := (List.range W).map P) (by simp [h.1]) fun k hk hk' => by
    rw [List.getElem_map, List.getElem_range]
    exact h.2 k hk
  exact ⟨_, by rw [r2, h.1], r3, r1⟩
/-- Where a loop of Pick stands. -/
def PkI (P : Nat → Nat → List Val3) (W N g : Nat) (w : World) (iv : Value) (wr : World) : Prop :=
  ∃ (k : Nat) (ss : List SlG), iv = .int .i64 k ∧ k ≤ N ∧ TabP (P k) W ss ∧ Tab 26 55 3 wr g ss ∧ Later w wr
theorem PkI.mk {P : Nat → Nat → List Val3} {W N g : Nat} {w wr : World} (y : Int) (k : Nat) (ss : List SlG) (hy : y = (k : Int)) (hk : k ≤ N) (h : TabP (P k) W ss) (ht : Tab 26 55 3 wr g ss) (l : Later w wr) : PkI P W N g w (.int .i64 y) wr := by
  subst hy; exact ⟨k, ss, rfl, hk, h, ht, l⟩
def outP (cols : List (List Val3)) (sel : List Int) (k j : Nat) : List Val3 := if j < k then pick1 (cols.getD j []) sel else []
def inP (cols : List (List Val3)) (sel : List Int) (k i j : Nat) : List Val3 := if j < k then pick1 (cols.getD j []) sel else if j = k then pick1 (cols.getD k []) (sel.take i) else []

set_option maxRecDepth 100000 in
set_option maxHeartbeats 4000000 in
theorem refPick_any (A B : Option Addr) (n c m d : Nat) (ss : List SlV) (sel : List Int) (w : World) (hn : n = ss.length) (hm : m = sel.length) (hl : n ≤ 1000) (hl2 : m ≤ 1000) (hr : RowsAt w A ss) (hb : ∀ s ∈ ss, s.l.length ≤ 1000) (hs : Has w B (zin sel)) :
    Calls Tryz.prog 15 #[.slice A n c, .slice B m d] w fun e w' => ∃ (g : Nat) (zs : List SlV), e = .returned (.slice (some ⟨g, 0, none⟩) zs.length zs.length) ∧ zs.map (·.l) = pickC (colsOf ss) sel ∧ RowsAt w' (some ⟨g, 0, none⟩) zs ∧ Later w w' := by
  have HN := Lib.hid hn
  have HM := Lib.hid hm
  have HR := Lib.hid hr
  have HB := Lib.hid hb
  have HS := Lib.hid hs
  have HCL := Lib.hid (show n = (colsOf ss).length by rw [hn]; simp [colsOf])
  have HGC := Lib.hid (fun (k : Nat) (h : k < ss.length) => show (colsOf ss).getD k [] = ss[k].l by unfold colsOf; simp [h])
  obtain ⟨cols, hcols⟩ : ∃ x, colsOf ss = x := ⟨_, rfl⟩
  rw [hcols] at HCL HGC ⊢
  have hmk := fun Wd => run_make_row' (P := Tryz.prog) 39 26 (.slice none 0 0) 24 Tryz.underlying39 info_sv rfl .i64 .i64 n (by omega) (by omega) Wd
  obtain ⟨g, hg⟩ : ∃ x, w.heap.size = x := ⟨_, rfl⟩
  obtain ⟨w2, hw2⟩ : ∃ x, w.alloc (.cells (madeCells #[.slice none 0 0] n) 26) = x := ⟨_, rfl⟩
  have l2 : Later w w2 := hw2 ▸ Later.new _ _
  have HGW := Lib.hid (show w.heap.size ≤ g by rw [← hg]; exact Nat.le_refl _)
  have HI0 := Lib.hid (PkI.mk (P := outP cols sel) (W := n) (N := n) (g := g) (w := w) (wr := w2) 0 0 _ rfl (Nat.zero_le _) ((TabP.new n).ext fun k hk => by unfold outP; rw [if_neg (by omega)]) (hw2 ▸ Tab.new w _ _ 3 n g hg.symm) l2)
  clear hn hm hr hb hs l2 hcols
  go_enter Tryz.func15, Tryz.ntmps15
  go_wp2_with fail
  clear hmk hw2 hg
  go_loopw [6] (fun iv wr => PkI (outP cols sel) n n g w iv wr) (fun i _ => n - (intOf i).toNat)
  case atStart => exact HI0.out
  case round =>
    obtain ⟨k, ts, rfl, hk, htc, htab, lat⟩ := hrel
    clear HI0
    by_cases hlt : k < n
    · have hks : k < ss.length := by have := HN.out; omega
      obtain ⟨cb, co, hA0, ck0, hh0, _⟩ := HR.out.get k hks
      subst hA0
      have hbl := HB.out _ (List.getElem_mem hks)
      have HCK := Lib.hid (HGC.out k hks)
      obtain ⟨col, hcol⟩ : ∃ x, ss[k].l = x := ⟨_, rfl⟩
      rw [hcol] at HCK hh0 ck0 hbl
      generalize ss[k].a = ca at ck0 hh0
      generalize ss[k].c = cc at ck0
      obtain ⟨cl, hcl⟩ : ∃ x, col.length = x := ⟨_, rfl⟩
      have HCLN := Lib.hid hcl
      rw [hcl] at ck0 hbl
      have HHH := Lib.hid hh0
      have HCK0 := Lib.hid ck0
      have HJ0 := Lib.hid (PkI.mk (P := inP cols sel k) (W := n) (N := m) (g := g) (w := w) (wr := wr) 0 0 ts rfl (Nat.zero_le _) (htc.ext fun j hj => by
        unfold outP inP
        by_cases e : j < k
        · rw [if_pos e, if_pos e]
        · rw [if_neg e, if_neg e]
          split <;> rfl) htab lat)
      clear htc htab lat hh0 ck0 hcol hcl
      go_wp2_with fail
      go_loopw [7] (fun iv wr => PkI (inP cols sel k) n m g w iv wr) (fun i _ => m - (intOf i).toNat)
      case atStart => exact HJ0.out
      case round =>
        obtain ⟨i, us, rfl, hi, htc, htab, lat⟩ := hrel
        clear HJ0
        by_cases hlm : i < m
        · have hjs : i < sel.length := by have := HM.out; omega
          obtain ⟨sb, so, hSB, cs0⟩ := HS.out.zat i hjs
          subst hSB
          obtain ⟨z, hz⟩ : ∃ z, sel[i] = z := ⟨_, rfl⟩
          rw [hz] at cs0
          have HZ := Lib.hid hz
          have HCS0 := Lib.hid cs0
          have cs := lat.cell cs0
          have ck := lat.cell HCK0.out
          clear hz cs0
          by_cases hin : 0 ≤ z ∧ z < (cl : Int)
          · obtain ⟨q, rfl⟩ := Int.eq_ofNat_of_zero_le hin.1
            have hq : q < col.length := by have := HCLN.out; omega
            have hqc : q < cl := by omega
            have hqi : (q : Int) < (cl : Int) := hin.2
            have hq0 : (0 : Int) ≤ (q : Int) := hin.1
            obtain ⟨vb, vo, hCA, u0, u1, u2⟩ := HHH.out.val3 q hq
            subst hCA
            have HT := Lib.hid (pick_yesN (c := col) hjs HZ.out hq)
            generalize col[q] = x at u0 u1 u2 HT
            obtain ⟨TA, tc, ckg, how, hput⟩ := TabP.step htc htab k hlt x
            have hPk : inP cols sel k i k = pick1 col (sel.take i) := by
              unfold inP
              rw [if_neg (by omega), if_pos rfl, HCK.out]
            rw [hPk] at ckg how hput
            obtain ⟨pn, hpn⟩ : ∃ x, (pick1 col (sel.take i)).length = x := ⟨_, rfl⟩
            rw [hpn] at ckg how hput
            have hpb : pn ≤ 1000 := by have := pick1_len col (sel.take i); rw [List.length_take] at this; have := HM.out; omega
            obtain ⟨x0, x1, x2⟩ := x
            dsimp only at u0 u1 u2
            have HPUT := Lib.hid hput
            have HOW := Lib.hid how
            have HLAT := Lib.hid lat
            have HU := Lib.hid (show w.cell? ⟨vb, vo + q * 3, none⟩ = some (.int .i64 x0) ∧ w.cell? ⟨vb, vo + q * 3 + 1, none⟩ = some (.int .i64 x1) ∧ w.cell? ⟨vb, vo + q * 3 + 2, none⟩ = some (.string x2) from ⟨u0, u1, u2⟩)
            have HVB := Lib.hid (show vb < g + 1 by have := block_lt_of_cell u0; have := HGW.out; dsimp only at *; omega)
            have HCB := Lib.hid (show cb < g + 1 by have := block_lt_of_cell HCK0.out; have := HGW.out; dsimp only at *; omega)
            have HSB := Lib.hid (show sb < g + 1 by have := block_lt_of_cell HCS0.out; have := HGW.out; dsimp only at *; omega)
            have HGL := Lib.hid htab.lt
            have HCKG := Lib.hid ckg
            have HFZ := Lib.hid (fun (w1 w2 : World) (l : Later wr w1) (hb : Below (g + 1) w1 w2) => Blk.frozen (w := w2) (g := g) (cs := (us.map SlG.v).toArray) (t := 26) ((hb.block g (Nat.lt_succ_self _)).trans (htab.later l).blk) k)
            clear htc htab lat hput how u0 u1 u2 hPk hpn ckg hin
            go_wp2_with fail
            go_quiet (fail)
            go_wp2_with fail
            obtain ⟨wv, hwv⟩ : ∃ x, wr.drewN nq = x := ⟨_, rfl⟩
            have lv : Later wr wv := hwv ▸ (Later.refl wr).drewN _
            rw [hwv]
            clear hwv
            refine wp_region_Z (S := fun Y : World => Y.cell? ⟨g, k, none⟩ = some (.slice TA pn tc) ∧ Y.cell? ⟨vb, vo + q * 3, none⟩ = some (.int .i64 x0) ∧ Y.cell? ⟨vb, vo + q * 3 + 1, none⟩ = some (.int .i64 x1) ∧ Y.cell? ⟨vb, vo + q * 3 + 2, none⟩ = some (.string x2) ∧ Y.cell? ⟨cb, co + k, none⟩ = some (.slice (some ⟨vb, vo, none⟩) cl cc) ∧ Y.cell? ⟨sb, so + i, none⟩ = some (.int .i64 q)) 19 (by kernel_rfl) ?_
            obtain ⟨w8, hw8⟩ : ∃ x, wv.drew = x := ⟨_, rfl⟩
            have l8 : Later wr w8 := hw8 ▸ lv.drew
            have LW := (HLAT.out.trans l8)
            have hS : (fun Y : World => Y.cell? ⟨g, k, none⟩ = some (.slice TA pn tc) ∧ Y.cell? ⟨vb, vo + q * 3, none⟩ = some (.int .i64 x0) ∧ Y.cell? ⟨vb, vo + q * 3 + 1, none⟩ = some (.int .i64 x1) ∧ Y.cell? ⟨vb, vo + q * 3 + 2, none⟩ = some (.string x2) ∧ Y.cell? ⟨cb, co + k, none⟩ = some (.slice (some ⟨vb, vo, none⟩) cl cc) ∧ Y.cell? ⟨sb, so + i, none⟩ = some (.int .i64 q)) w8 := ⟨l8.cell HCKG.out, LW.cell HU.out.1, LW.cell HU.out.2.1, LW.cell HU.out.2.2, LW.cell HCK0.out, LW.cell HCS0.out⟩
            rw [hw8]
            clear hw8 LW lv cs ck
            refine wpAnyZ_take (i := 0) (oi := { dst := some 40, op := _, type := _, pos := _, after := _, guard := _ }) (v := ?_) rfl (by kernel_rfl) (by kernel_rfl) (by kernel_rfl) (by kernel_rfl) (fun _ _ _ h => h) (Or.inl ⟨by rfl, ?_⟩) hS ?_
            rotate_left
            focus ((intro w hSw; (try dsimp only at hSw); obtain ⟨d0, d1, d2, d3, d4, d5⟩ := hSw; go_simp); (try with_reducible rfl))
            (try simp only [Act.put, List.setIfInBounds_toArray, List.set_cons_zero, List.set_cons_succ])
            refine wpAnyZ_take (i := 1) (oi := { dst := some 41, op := _, type := _, pos := _, after := _, guard := _ }) (v := ?_) rfl (by kernel_rfl) (by kernel_rfl) (by kernel_rfl) (by kernel_rfl) (fun _ _ _ h => h) (Or.inl ⟨by rfl, ?_⟩) hS ?_
            rotate_left
            focus ((intro w hSw; (try dsimp only at hSw); obtain ⟨d0, d1, d2, d3, d4, d5⟩ := hSw; go_simp); (try with_reducible rfl))
            (try simp only [Act.put, List.setIfInBounds_toArray, List.set_cons_zero, List.set_cons_succ])
            refine wpAnyZ_take (i := 2) (oi := { dst := some 42, op := _, type := _, pos := _, after := _, guard := _ }) (v := ?_) rfl (by kernel_rfl) (by kernel_rfl) (by kernel_rfl) (by kernel_rfl) (fun _ _ _ h => h) (Or.inl ⟨by rfl, ?_⟩) hS ?_
            rotate_left
            focus ((intro w hSw; (try dsimp only at hSw); obtain ⟨d0, d1, d2, d3, d4, d5⟩ := hSw; go_simp); (try with_reducible rfl))
            (try simp only [Act.put, List.setIfInBounds_toArray, List.set_cons_zero, List.set_cons_succ])
            refine wpAnyZ_take (i := 3) (oi := { dst := some 43, op := _, type := _, pos := _, after := _, guard := _ }) (v := ?_) rfl (by kernel_rfl) (by kernel_rfl) (by kernel_rfl) (by kernel_rfl) (fun _ _ _ h => h) (Or.inl ⟨by rfl, ?_⟩) hS ?_
            rotate_left
            focus ((intro w hSw; (try dsimp only at hSw); obtain ⟨d0, d1, d2, d3, d4, d5⟩ := hSw; go_simp); (try with_reducible rfl))
            (try simp only [Act.put, List.setIfInBounds_toArray, List.set_cons_zero, List.set_cons_succ])
            refine wpAnyZ_take (i := 4) (oi := { dst := some 44, op := _, type := _, pos := _, after := _, guard := _ }) (v := ?_) rfl (by kernel_rfl) (by kernel_rfl) (by kernel_rfl) (by kernel_rfl) (fun _ _ _ h => h) (Or.inl ⟨by rfl, ?_⟩) hS ?_
            rotate_left
            focus ((intro w hSw; (try dsimp only at hSw); obtain ⟨d0, d1, d2, d3, d4, d5⟩ := hSw; go_simp); (try with_reducible rfl))
            (try simp only [Act.put, List.setIfInBounds_toArray, List.set_cons_zero, List.set_cons_succ])
            refine wpAnyZ_take (i := 5) (oi := { dst := some 45, op := _, type := _, pos := _, after := _, guard := _ }) (v := ?_) rfl (by kernel_rfl) (by kernel_rfl) (by kernel_rfl) (by kernel_rfl) (fun _ _ _ h => h) (Or.inl ⟨by rfl, ?_⟩) hS ?_
            rotate_left
            focus ((intro w hSw; (try dsimp only at hSw); obtain ⟨d0, d1, d2, d3, d4, d5⟩ := hSw; go_simp); (try with_reducible rfl))
            (try simp only [Act.put, List.setIfInBounds_toArray, List.set_cons_zero, List.set_cons_succ])
            refine wpAnyZ_take (i := 6) (oi := { dst := some 46, op := _, type := _, pos := _, after := _, guard := _ }) (v := ?_) rfl (by kernel_rfl) (by kernel_rfl) (by kernel_rfl) (by kernel_rfl) (fun _ _ _ h => h) (Or.inl ⟨by rfl, ?_⟩) hS ?_
            rotate_left
            focus ((intro w hSw; (try dsimp only at hSw); obtain ⟨d0, d1, d2, d3, d4, d5⟩ := hSw; go_simp); (try with_reducible rfl))
            (try simp only [Act.put, List.setIfInBounds_toArray, List.set_cons_zero, List.set_cons_succ])
            refine wpAnyZ_take (i := 7) (oi := { dst := some 47, op := _, type := _, pos := _, after := _, guard := _ }) (v := ?_) rfl (by kernel_rfl) (by kernel_rfl) (by kernel_rfl) (by kernel_rfl) (fun _ _ _ h => h) (Or.inl ⟨by rfl, ?_⟩) hS ?_
            rotate_left
            focus ((intro w hSw; (try dsimp only at hSw); obtain ⟨d0, d1, d2, d3, d4, d5⟩ := hSw; go_simp); (try with_reducible rfl))
            (try simp only [Act.put, List.setIfInBounds_toArray, List.set_cons_zero, List.set_cons_succ])
            refine wpAnyZ_take (i := 8) (oi := { dst := some 48, op := _, type := _, pos := _, after := _, guard := _ }) (v := ?_) rfl (by kernel_rfl) (by kernel_rfl) (by kernel_rfl) (by kernel_rfl) (fun _ _ _ h => h) (Or.inl ⟨by rfl, ?_⟩) hS ?_
            rotate_left
            focus ((intro w hSw; (try dsimp only at hSw); obtain ⟨d0, d1, d2, d3, d4, d5⟩ := hSw; go_simp); (try with_reducible rfl))
            (try simp only [Act.put, List.setIfInBounds_toArray, List.set_cons_zero, List.set_cons_succ])
            refine wpAnyZ_take (i := 9) (oi := { dst := some 49, op := _, type := _, pos := _, after := _, guard := _ }) (v := ?_) rfl (by kernel_rfl) (by kernel_rfl) (by kernel_rfl) (by kernel_rfl) (fun _ _ _ h => h) (Or.inl ⟨by rfl, ?_⟩) hS ?_
            rotate_left
            focus ((intro w hSw; (try dsimp only at hSw); obtain ⟨d0, d1, d2, d3, d4, d5⟩ := hSw; go_simp); (try with_reducible rfl))
            (try simp only [Act.put, List.setIfInBounds_toArray, List.set_cons_zero, List.set_cons_succ])
            refine wpAnyZ_take (i := 10) (oi := { dst := some 50, op := _, type := _, pos := _, after := _, guard := _ }) (v := ?_) rfl (by kernel_rfl) (by kernel_rfl) (by kernel_rfl) (by kernel_rfl) (fun _ _ _ h => h) (Or.inl ⟨by rfl, ?_⟩) hS ?_
            rotate_left
            focus ((intro w hSw; (try dsimp only at hSw); obtain ⟨d0, d1, d2, d3, d4, d5⟩ := hSw; go_simp); (try with_reducible rfl))
            (try simp only [Act.put, List.setIfInBounds_toArray, List.set_cons_zero, List.set_cons_succ])
            refine wpAnyZ_take (i := 11) (oi := { dst := some 51, op := _, type := _, pos := _, after := _, guard := _ }) (v := ?_) rfl (by kernel_rfl) (by kernel_rfl) (by kernel_rfl) (by kernel_rfl) (fun _ _ _ h => h) (Or.inl ⟨by rfl, ?_⟩) hS ?_
            rotate_left
            focus ((intro w hSw; (try dsimp only at hSw); obtain ⟨d0, d1, d2, d3, d4, d5⟩ := hSw; go_simp); (try with_reducible rfl))
            (try simp only [Act.put, List.setIfInBounds_toArray, List.set_cons_zero, List.set_cons_succ])
            refine wpAnyZ_take (i := 12) (oi := { dst := some 52, op := _, type := _, pos := _, after := _, guard := _ }) (v := ?_) rfl (by kernel_rfl) (by kernel_rfl) (by kernel_rfl) (by kernel_rfl) (fun _ _ _ h => h) (Or.inl ⟨by rfl, ?_⟩) hS ?_
            rotate_left
            focus ((intro w hSw; (try dsimp only at hSw); obtain ⟨d0, d1, d2, d3, d4, d5⟩ := hSw; go_simp); (try with_reducible rfl))
            (try simp only [Act.put, List.setIfInBounds_toArray, List.set_cons_zero, List.set_cons_succ])
            refine wpAnyZ_take (i := 13) (oi := { dst := some 53, op := _, type := _, pos := _, after := _, guard := _ }) (v := ?_) rfl (by kernel_rfl) (by kernel_rfl) (by kernel_rfl) (by kernel_rfl) (fun _ _ _ h => h) (Or.inl ⟨by rfl, ?_⟩) hS ?_
            rotate_left
            focus ((intro w hSw; (try dsimp only at hSw); obtain ⟨d0, d1, d2, d3, d4, d5⟩ := hSw; go_simp); (try with_reducible rfl))
            (try simp only [Act.put, List.setIfInBounds_toArray, List.set_cons_zero, List.set_cons_succ])
            refine wpAnyZ_take (i := 14) (oi := { dst := some 54, op := _, type := _, pos := _, after := _, guard := _ }) (v := ?_) rfl (by kernel_rfl) (by kernel_rfl) (by kernel_rfl) (by kernel_rfl) (fun _ _ _ h => h) (Or.inl ⟨by rfl, ?_⟩) hS ?_
            rotate_left
            focus ((intro w hSw; (try dsimp only at hSw); obtain ⟨d0, d1, d2, d3, d4, d5⟩ := hSw; go_simp); (try with_reducible rfl))
            (try simp only [Act.put, List.setIfInBounds_toArray, List.set_cons_zero, List.set_cons_succ])
            refine wpAnyZ_take (i := 15) (oi := { dst := some 55, op := _, type := _, pos := _, after := _, guard := _ }) (v := ?_) rfl (by kernel_rfl) (by kernel_rfl) (by kernel_rfl) (by kernel_rfl) (fun _ _ _ h => h) (Or.inl ⟨by rfl, ?_⟩) hS ?_
            rotate_left
            focus ((intro w hSw; (try dsimp only at hSw); obtain ⟨d0, d1, d2, d3, d4, d5⟩ := hSw; go_simp); (try with_reducible rfl))
            (try simp only [Act.put, List.setIfInBounds_toArray, List.set_cons_zero, List.set_cons_succ])
            refine wpAnyZ_all (rs := [16]) (by kernel_rfl) (by simp) (fun i hi => ?_)
            simp only [List.mem_cons, List.not_mem_nil, or_false] at hi
            subst hi
            refine stepZ (o := { dst := some 56, op := _, type := _, pos := _, after := _, guard := _ }) rfl (fun K hK => ?_)
            go_simp
            obtain ⟨gl, hgl⟩ : ∃ x, w8.heap.size = x := ⟨_, rfl⟩
            obtain ⟨wl, hwl⟩ : ∃ x, w8.alloc (.cells #[.int .i64 x0, .int .i64 x1, .string x2] 55) = x := ⟨_, rfl⟩
            have ll : Later w8 wl := hwl ▸ Later.new _ _
            have hlit : Has wl (some ⟨gl, 0, none⟩) [.int .i64 x0, .int .i64 x1, .string x2] := hwl ▸ (Blk.new w8 [.int .i64 x0, .int .i64 x1, .string x2].toArray 55 gl hgl.symm).has
            try rw [hgl]
            rw [hwl]
            have hS : (fun Y : World => Y.cell? ⟨g, k, none⟩ = some (.slice TA pn tc) ∧ Y.cell? ⟨vb, vo + q * 3, none⟩ = some (.int .i64 x0) ∧ Y.cell? ⟨vb, vo + q * 3 + 1, none⟩ = some (.int .i64 x1) ∧ Y.cell? ⟨vb, vo + q * 3 + 2, none⟩ = some (.string x2) ∧ Y.cell? ⟨cb, co + k, none⟩ = some (.slice (some ⟨vb, vo, none⟩) cl cc) ∧ Y.cell? ⟨sb, so + i, none⟩ = some (.int .i64 q)) wl := ⟨ll.cell hS.1, ll.cell hS.2.1, ll.cell hS.2.2.1, ll.cell hS.2.2.2.1, ll.cell hS.2.2.2.2.1, ll.cell hS.2.2.2.2.2⟩
            refine hK _ _ hS ?_
            clear hK hwl hgl
            (try simp only [Act.put, List.setIfInBounds_toArray, List.set_cons_zero, List.set_cons_succ])
            refine wpAnyZ_all (rs := [17]) (by kernel_rfl) (by simp) (fun i hi => ?_)
            simp only [List.mem_cons, List.not_mem_nil, or_false] at hi
            subst hi
            refine stepZ (o := { dst := some 57, op := _, type := _, pos := _, after := _, guard := _ }) rfl (fun K hK => ?_)
            refine step_append_x rfl (.tmp 45) (.tmp 56) 26 rfl (g + 1) 55 _ 3 32 Tryz.underlying26 info_v rfl (by decide) _ pn (fl (pick1 col (sel.take i))) rfl (own_later HOW.out (l8.trans ll)) gl 0 1 1 [.int .i64 x0, .int .i64 x1, .string x2] rfl hlit rfl (by simp [Value.oneCell']) (by unfold maxLen; omega) (by omega) (by have := ll.size; have := l8.size; have := HGL.out; omega) ?_
            rintro A' c' wq ho hgr hbl hat hnl
            have hSq : (fun Y : World => Y.cell? ⟨g, k, none⟩ = some (.slice TA pn tc) ∧ Y.cell? ⟨vb, vo + q * 3, none⟩ = some (.int .i64 x0) ∧ Y.cell? ⟨vb, vo + q * 3 + 1, none⟩ = some (.int .i64 x1) ∧ Y.cell? ⟨vb, vo + q * 3 + 2, none⟩ = some (.string x2) ∧ Y.cell? ⟨cb, co + k, none⟩ = some (.slice (some ⟨vb, vo, none⟩) cl cc) ∧ Y.cell? ⟨sb, so + i, none⟩ = some (.int .i64 q)) wq := by
              have hb : ∀ p : Addr, p.block < g + 1 → ∀ v, wl.cell? p = some v → wq.cell? p = some v := fun p hp v hv => (hbl.cell hp).trans hv
              exact ⟨hb _ (Nat.lt_succ_self _) _ hS.1, hb _ HVB.out _ hS.2.1, hb _ HVB.out _ hS.2.2.1, hb _ HVB.out _ hS.2.2.2.1, hb _ HCB.out _ hS.2.2.2.2.1, hb _ HSB.out _ hS.2.2.2.2.2⟩
            have HP := Lib.hid (HPUT.out wl wq A' c' (l8.trans ll) ho hgr hat hnl)
            have HLq := Lib.hid (show Later w (wq.setCell ⟨g, k, none⟩ (.slice A' (pn + 1) c')) from Later.of ((((HLAT.out.trans l8).trans ll).below.trans (hbl.mono (by have := HGW.out; omega))).setCell (show w.heap.size ≤ g from HGW.out) _))
            have e0 := hSq.1
            have y0 : wq.frozen? ⟨g, k, none⟩ = false := HFZ.out wl wq (l8.trans ll) hbl
            clear ho hgr hbl hat hnl hS hlit ll
            refine hK _ _ hSq ?_
            clear hK
            (try simp only [Act.put, List.setIfInBounds_toArray, List.set_cons_zero, List.set_cons_succ])
            refine wpAnyZ_take (i := 18) (oi := { dst := some 58, op := _, type := _, pos := _, after := _, guard := _ }) (v := ?_) rfl (by kernel_rfl) (by kernel_rfl) (by kernel_rfl) (by kernel_rfl) (fun _ _ _ h => h) (Or.inl ⟨by rfl, ?_⟩) hSq ?_
            rotate_left
            focus ((intro w hSw; (try dsimp only at hSw); obtain ⟨d0, d1, d2, d3, d4, d5⟩ := hSw; go_simp); (try with_reducible rfl))
            (try simp only [Act.put, List.setIfInBounds_toArray, List.set_cons_zero, List.set_cons_succ])
            refine wpAnyZ_all (rs := [19]) (by kernel_rfl) (by simp) (fun i hi => ?_)
            simp only [List.mem_cons, List.not_mem_nil, or_false] at hi
            subst hi
            refine stepZl (o := { dst := none, op := _, type := _, pos := _, after := _, guard := _ }) rfl (fun K hK => ?_)
            go_simp
            refine hK _ _ ?_
            clear hK
            (try simp only [Act.put, List.setIfInBounds_toArray, List.set_cons_zero, List.set_cons_succ])
            refine wpAnyZ_done (by kernel_rfl) ?_ _
            clear e0 y0 hSq
            obtain ⟨wz, hwz⟩ : ∃ x, wq.setCell ⟨g, k, none⟩ (.slice A' (pn + 1) c') = x := ⟨_, rfl⟩
            rw [hwz] at HP HLq ⊢
            obtain ⟨ss', h1, h2⟩ := HP.out
            have HI := Lib.hid (PkI.mk (P := inP cols sel k) (W := n) (N := m) (g := g) (w := w) (wr := wz) ((i : Int) + 1) (i + 1) ss' (by omega) (by omega) (h1.ext fun j hj => by
              unfold inP
              by_cases e : j = k
              · subst e; rw [if_pos rfl, if_neg (by omega), if_pos rfl, HCK.out, HT.out]
              · rw [if_neg e]
                by_cases e2 : j < k
                · rw [if_pos e2, if_pos e2]
                · rw [if_neg e2, if_neg e2, if_neg e, if_neg e]) h2 HLq.out)
            clear h1 h2 hwz HP HLq HPUT HOW HLAT
            have hwj : IntKind.i64.wrap ((i : Int) + 1) = (i : Int) + 1 := IntWalk.i64_in _ ⟨by omega, by omega⟩
            go_wp2_with fail
            go_roundw
            all_goals first
              | exact HI.out
              | (simp [intOf]; done)
              | (simp [intOf]; omega)
          · have HT := Lib.hid (pick_no (c := col) hjs HZ.out (by rw [HCLN.out]; exact hin))
            have HI := Lib.hid (fun wn (l : Later wr wn) => PkI.mk (P := inP cols sel k) (W := n) (N := m) (g := g) (w := w) (wr := wn) ((i : Int) + 1) (i + 1) us (by omega) (by omega) (htc.ext fun j hj => by
              unfold inP
              by_cases e : j < k
              · rw [if_pos e, if_pos e]
              · rw [if_neg e, if_neg e]
                by_cases e2 : j = k
                · rw [if_pos e2, if_pos e2, HCK.out, HT.out]
                · rw [if_neg e2, if_neg e2]) (htab.later l) (lat.trans l))
            have hwj : IntKind.i64.wrap ((i : Int) + 1) = (i : Int) + 1 := IntWalk.i64_in _ ⟨by omega, by omega⟩
            by_cases h0 : 0 ≤ z
            · have hzl : ¬ z < (cl : Int) := fun h => hin ⟨h0, h⟩
              have hzl2 : (cl : Int) ≤ z := by omega
              clear htc htab lat hin
              go_wp2_with fail
              go_quiet (fail)
              go_wp2_with fail
              go_roundw
              all_goals first
                | exact HI.out _ ((Later.refl wr).drewN _)
                | (simp [intOf]; omega)
            · have hz1 : z < 0 := by omega
              have hzd : decide (0 ≤ z) = false := by simp; omega
              clear htc htab lat hin h0
              go_wp2_with fail
              go_quiet (fail)
              go_wp2_with fail
              go_roundw
              all_goals first
                | exact HI.out _ ((Later.refl wr).drewN _)
                | (simp [intOf]; omega)
        · have him : i = sel.length := by have := HM.out; omega
          have HO := Lib.hid (PkI.mk (P := outP cols sel) (W := n) (N := n) (g := g) (w := w) (wr := wr) ((k : Int) + 1) (k + 1) us (by omega) (by omega) (htc.ext fun j hj => by
            unfold outP inP
            by_cases e : j < k
            · rw [if_pos e, if_pos (by omega)]
            · rw [if_neg e]
              by_cases e2 : j = k
              · rw [if_pos e2, if_pos (by omega), him, List.take_length, e2]
              · rw [if_neg e2, if_neg (by omega)]) htab lat)
          have hwj : IntKind.i64.wrap ((k : Int) + 1) = (k : Int) + 1 := IntWalk.i64_in _ ⟨by omega, by omega⟩
          clear htc htab lat him
          go_wp2_with fail
          go_roundw
          all_goals first
            | exact HO.out
            | (simp [intOf]; done)
            | (simp [intOf]; omega)
    · have hkn : k = n := by omega
      subst hkn
      obtain ⟨zs, z1, z2, z3⟩ := (htc.ext (P' := fun j => pick1 (cols.getD j []) sel) fun j hj => by unfold outP; rw [if_pos hj]).rows htab
      have HF := Lib.hid (show zs.map (·.l) = pickC cols sel by
        rw [z2]
        unfold pickC
        refine List.ext_getElem (by simp; exact HCL.out) fun j h1 h2 => ?_
        rw [List.getElem_map, List.getElem_map, List.getElem_range]
        rw [List.length_map] at h2
        rw [List.getD_eq_getElem?_getD, List.getElem?_eq_getElem h2]; rfl)
      have HZ1 := Lib.hid z1
      have HZ3 := Lib.hid z3
      have HLT := Lib.hid lat
      clear htc htab lat z1 z2 z3
      go_wp2_with fail
      go_ret
      exact ⟨g, zs, by rw [HZ1.out]; rfl, HF.out, HZ3.out, HLT.out⟩
end Go.Proofs.YtlfmmhbaphnifaaRRRRGreatDoor
