/- The walk of the document's Columns. (tools/gen_batc.py) -/
import Derived.Test.YtiacemlloaenoaaDoorBatC
namespace Go.Proofs.YtiacemlloaenoaaDoor
open Go.RowKit
set_option linter.unusedVariables false

set_option maxRecDepth 100000 in
set_option maxHeartbeats 4000000 in
theorem refColumns_any (A : Option Addr) (n c : Nat) (zs : List SlV) (z : Int) (w : World) (hn : n = zs.length) (hl : n ≤ 1000) (hr : RowsAt w A zs) (hb : ∀ s ∈ zs, s.l.length ≤ 1000) :
    Calls Tryd.prog 10 #[.slice A n c, .int .i64 z] w (ColsP (zs.map (·.l)) z w) := by
  by_cases hz : 1 ≤ z ∧ z ≤ 6
  · obtain ⟨W, rfl⟩ : ∃ W : Nat, z = (W : Int) := ⟨z.toNat, by omega⟩
    have hW : 1 ≤ W ∧ W ≤ 6 := by omega
    have HN := Lib.hid hn
    have HBB := Lib.hid hb
    obtain ⟨L, hL⟩ : ∃ x, zs.map (·.l) = x := ⟨_, rfl⟩
    have HLL := Lib.hid hL
    have HOKZ := Lib.hid (show ColsOk (zs.map (·.l)) (W : Int) ↔ ((1 ≤ (W : Int) ∧ (W : Int) ≤ 6) ∧ ∀ s ∈ zs, (s.l.length : Int) = W) from colsOk_of)
    have hLn : L.length = n := by rw [← hL, List.length_map, hn]
    rw [hL] at HOKZ ⊢
    have HLN := Lib.hid hLn
    have hmk := fun Wd => run_make_row' (P := Tryd.prog) 35 37 (.slice none 0 0) 24 Tryd.underlying35 info_sv rfl .i64 .i64 W (by omega) (by omega) Wd
    obtain ⟨g, hg⟩ : ∃ x, w.heap.size = x := ⟨_, rfl⟩
    obtain ⟨w2, hw2⟩ : ∃ x, w.alloc (.cells (madeCells #[.slice none 0 0] W) 37) = x := ⟨_, rfl⟩
    have l2 : Later w w2 := hw2 ▸ Later.new _ _
    have HGW := Lib.hid (show w.heap.size ≤ g by rw [← hg]; exact Nat.le_refl _)
    have HI0 := Lib.hid (CoI.mk (L := L) (W := W) (g := g) (F := fun i _ => i) (N := n) (w := w) (wr := w2) 0 0 _ rfl (Nat.zero_le _) (TabC.new L W) (hw2 ▸ Tab.new w _ _ 3 W g hg.symm) l2)
    have HA0 := Lib.hid (show ∀ i (h : i < zs.length), i < 0 → zs[i].l.length = W from fun i h hi => by omega)
    have HW2 := Lib.hid hw2
    have HG := Lib.hid hg
    have HRW := Lib.hid hr
    have h1 : ¬ (W : Int) < 1 := by omega
    have h2 : ¬ 6 < (W : Int) := by omega
    clear hr hn hL hLn hw2 l2 hg hb hz
    go_enter Tryd.func10, Tryd.ntmps10
    go_wp2_with fail
    clear hmk
    rw [HG.out, HW2.out]
    go_loopw [7] (fun iv wr => CoI L W g (fun i _ => i) n w iv wr ∧ ∀ i (h : i < zs.length), (i : Int) < intOf iv → zs[i].l.length = W) (fun i _ => n - (intOf i).toNat)
    case atStart => exact ⟨HI0.out, fun i h hi => HA0.out i h (by simp [intOf] at hi; omega)⟩
    case round =>
      obtain ⟨⟨i, ss, rfl, hi, htc, htab, lat⟩, hall⟩ := hrel
      have HALL := Lib.hid (fun j (h : j < zs.length) (hj : j < i) => hall j h (by simp only [intOf]; omega))
      clear HI0 HA0 hall
      by_cases hlt : i < n
      · have his : i < zs.length := by have := HN.out; omega
        have hiL : i < L.length := by have := HLN.out; omega
        obtain ⟨rb, ro, hA, cr0, hh0, _⟩ := HRW.out.get i his
        subst hA
        have HHH := Lib.hid hh0
        have HCR := Lib.hid cr0
        have hlb := HBB.out _ (List.getElem_mem his)
        have HLI := Lib.hid (show L[i] = zs[i].l by simp [← HLL.out])
        have hil : (i : Int) < (n : Int) := by omega
        by_cases hlen : zs[i].l.length = W
        · have HJ0 := Lib.hid (CoI.mk (L := L) (W := W) (g := g) (F := fun k j => if j < k then i + 1 else i) (N := W) (w := w) (wr := wr) 0 0 ss rfl (Nat.zero_le _) (htc.ext fun j hj => by (try dsimp only); rw [if_neg (by omega)]) htab lat)
          have HALL2 := Lib.hid (show ∀ j (h : j < zs.length), j < i + 1 → zs[j].l.length = W from fun j h hj => by
            rcases Nat.lt_or_ge j i with h' | h'
            · exact HALL.out j h h'
            · obtain rfl : j = i := by omega
              exact hlen)
          have HLEN := Lib.hid hlen
          have cr := lat.cell cr0
          rw [hlen] at cr
          have hWW : ((W : Int) != (W : Int)) = false := by simp
          clear htc htab lat hh0 cr0 hlen hlb
          go_wp2_with fail
          go_loopw [8] (fun kv wr => CoI L W g (fun k j => if j < k then i + 1 else i) W w kv wr) (fun k _ => W - (intOf k).toNat)
          case atStart => exact HJ0.out
          case round =>
            obtain ⟨k, ts, rfl, hk, htc, htab, lat⟩ := hrel
            clear HJ0 cr
            by_cases hkW : k < W
            · obtain ⟨vb, vo, hV, u0, u1, u2⟩ := HHH.out.val3 k (by have := HLEN.out; omega)
              have hx : L[i].getD k (0, 0, ⟨#[]⟩) = zs[i].l[k]'(by have := HLEN.out; omega) := by
                rw [HLI.out, List.getD_eq_getElem?_getD, List.getElem?_eq_getElem (by have := HLEN.out; omega)]; rfl
              have hvb : vb < g + 1 := by have := block_lt_of_cell u0; have := HGW.out; dsimp only at *; omega
              have hrb : rb < g + 1 := by have := block_lt_of_cell HCR.out; have := HGW.out; dsimp only at *; omega
              have cr := lat.cell HCR.out
              have v0 := lat.cell u0
              have v1 := lat.cell u1
              have v2 := lat.cell u2
              rw [hV] at cr
              rw [HLEN.out] at cr
              obtain ⟨TA, tc, ck, how, hput⟩ := TabC.step htc htab k i hkW (by dsimp only; rw [if_neg (by omega)]) hiL _ hx
              generalize zs[i].l[k]'(by have := HLEN.out; omega) = x at v0 v1 v2 how hput hx u0 u1 u2
              obtain ⟨rc, hrc⟩ : ∃ x, zs[i].c = x := ⟨_, rfl⟩
              rw [hrc] at cr
              obtain ⟨x0, x1, x2⟩ := x
              dsimp only at v0 v1 v2
              have HPUT := Lib.hid hput
              have HOW := Lib.hid how
              have HLAT := Lib.hid lat
              have HVB := Lib.hid hvb
              have HRB := Lib.hid hrb
              have HGL := Lib.hid htab.lt
              have HFZ := Lib.hid (fun (w1 w2 : World) (l : Later wr w1) (hb : Below (g + 1) w1 w2) => Blk.frozen (w := w2) (g := g) (cs := (ts.map SlG.v).toArray) (t := 37) ((hb.block g (Nat.lt_succ_self _)).trans (htab.later l).blk) k)
              have hki : (k : Int) < (W : Int) := by omega
              clear hx htc htab lat hput how hV hvb hrb u0 u1 u2 hrc
              go_wp2_with fail
              refine wp_region_Z (S := fun Y : World => Y.cell? ⟨g, k, none⟩ = some (.slice TA i tc) ∧ Y.cell? ⟨vb, vo + k * 3, none⟩ = some (.int .i64 x0) ∧ Y.cell? ⟨vb, vo + k * 3 + 1, none⟩ = some (.int .i64 x1) ∧ Y.cell? ⟨vb, vo + k * 3 + 2, none⟩ = some (.string x2) ∧ Y.cell? ⟨rb, ro + i, none⟩ = some (.slice (some ⟨vb, vo, none⟩) W rc)) 16 (by kernel_rfl) ?_
              have hS : (fun Y : World => Y.cell? ⟨g, k, none⟩ = some (.slice TA i tc) ∧ Y.cell? ⟨vb, vo + k * 3, none⟩ = some (.int .i64 x0) ∧ Y.cell? ⟨vb, vo + k * 3 + 1, none⟩ = some (.int .i64 x1) ∧ Y.cell? ⟨vb, vo + k * 3 + 2, none⟩ = some (.string x2) ∧ Y.cell? ⟨rb, ro + i, none⟩ = some (.slice (some ⟨vb, vo, none⟩) W rc)) wr.drew := ⟨ck, v0, v1, v2, cr⟩
              obtain ⟨w8, hw8⟩ : ∃ x, wr.drew = x := ⟨_, rfl⟩
              have l8 : Later wr w8 := hw8 ▸ (Later.refl wr).drew
              rw [hw8] at hS ⊢
              clear hw8
              refine wpAnyZ_take (i := 0) (oi := { dst := some 35, op := _, type := _, pos := _, after := _, guard := _ }) (v := ?_) rfl (by kernel_rfl) (by kernel_rfl) (by kernel_rfl) (by kernel_rfl) (fun _ _ _ h => h) (Or.inl ⟨by rfl, ?_⟩) hS ?_
              rotate_left
              focus ((intro w hSw; (try dsimp only at hSw); obtain ⟨d0, d1, d2, d3, d4⟩ := hSw; go_simp); (try with_reducible rfl))
              (try simp only [Act.put, List.setIfInBounds_toArray, List.set_cons_zero, List.set_cons_succ])
              refine wpAnyZ_take (i := 1) (oi := { dst := some 36, op := _, type := _, pos := _, after := _, guard := _ }) (v := ?_) rfl (by kernel_rfl) (by kernel_rfl) (by kernel_rfl) (by kernel_rfl) (fun _ _ _ h => h) (Or.inl ⟨by rfl, ?_⟩) hS ?_
              rotate_left
              focus ((intro w hSw; (try dsimp only at hSw); obtain ⟨d0, d1, d2, d3, d4⟩ := hSw; go_simp); (try with_reducible rfl))
              (try simp only [Act.put, List.setIfInBounds_toArray, List.set_cons_zero, List.set_cons_succ])
              refine wpAnyZ_take (i := 2) (oi := { dst := some 37, op := _, type := _, pos := _, after := _, guard := _ }) (v := ?_) rfl (by kernel_rfl) (by kernel_rfl) (by kernel_rfl) (by kernel_rfl) (fun _ _ _ h => h) (Or.inl ⟨by rfl, ?_⟩) hS ?_
              rotate_left
              focus ((intro w hSw; (try dsimp only at hSw); obtain ⟨d0, d1, d2, d3, d4⟩ := hSw; go_simp); (try with_reducible rfl))
              (try simp only [Act.put, List.setIfInBounds_toArray, List.set_cons_zero, List.set_cons_succ])
              refine wpAnyZ_take (i := 3) (oi := { dst := some 38, op := _, type := _, pos := _, after := _, guard := _ }) (v := ?_) rfl (by kernel_rfl) (by kernel_rfl) (by kernel_rfl) (by kernel_rfl) (fun _ _ _ h => h) (Or.inl ⟨by rfl, ?_⟩) hS ?_
              rotate_left
              focus ((intro w hSw; (try dsimp only at hSw); obtain ⟨d0, d1, d2, d3, d4⟩ := hSw; go_simp); (try with_reducible rfl))
              (try simp only [Act.put, List.setIfInBounds_toArray, List.set_cons_zero, List.set_cons_succ])
              refine wpAnyZ_take (i := 4) (oi := { dst := some 39, op := _, type := _, pos := _, after := _, guard := _ }) (v := ?_) rfl (by kernel_rfl) (by kernel_rfl) (by kernel_rfl) (by kernel_rfl) (fun _ _ _ h => h) (Or.inl ⟨by rfl, ?_⟩) hS ?_
              rotate_left
              focus ((intro w hSw; (try dsimp only at hSw); obtain ⟨d0, d1, d2, d3, d4⟩ := hSw; go_simp); (try with_reducible rfl))
              (try simp only [Act.put, List.setIfInBounds_toArray, List.set_cons_zero, List.set_cons_succ])
              refine wpAnyZ_take (i := 5) (oi := { dst := some 40, op := _, type := _, pos := _, after := _, guard := _ }) (v := ?_) rfl (by kernel_rfl) (by kernel_rfl) (by kernel_rfl) (by kernel_rfl) (fun _ _ _ h => h) (Or.inl ⟨by rfl, ?_⟩) hS ?_
              rotate_left
              focus ((intro w hSw; (try dsimp only at hSw); obtain ⟨d0, d1, d2, d3, d4⟩ := hSw; go_simp); (try with_reducible rfl))
              (try simp only [Act.put, List.setIfInBounds_toArray, List.set_cons_zero, List.set_cons_succ])
              refine wpAnyZ_take (i := 6) (oi := { dst := some 41, op := _, type := _, pos := _, after := _, guard := _ }) (v := ?_) rfl (by kernel_rfl) (by kernel_rfl) (by kernel_rfl) (by kernel_rfl) (fun _ _ _ h => h) (Or.inl ⟨by rfl, ?_⟩) hS ?_
              rotate_left
              focus ((intro w hSw; (try dsimp only at hSw); obtain ⟨d0, d1, d2, d3, d4⟩ := hSw; go_simp); (try with_reducible rfl))
              (try simp only [Act.put, List.setIfInBounds_toArray, List.set_cons_zero, List.set_cons_succ])
              refine wpAnyZ_take (i := 7) (oi := { dst := some 42, op := _, type := _, pos := _, after := _, guard := _ }) (v := ?_) rfl (by kernel_rfl) (by kernel_rfl) (by kernel_rfl) (by kernel_rfl) (fun _ _ _ h => h) (Or.inl ⟨by rfl, ?_⟩) hS ?_
              rotate_left
              focus ((intro w hSw; (try dsimp only at hSw); obtain ⟨d0, d1, d2, d3, d4⟩ := hSw; go_simp); (try with_reducible rfl))
              (try simp only [Act.put, List.setIfInBounds_toArray, List.set_cons_zero, List.set_cons_succ])
              refine wpAnyZ_take (i := 8) (oi := { dst := some 43, op := _, type := _, pos := _, after := _, guard := _ }) (v := ?_) rfl (by kernel_rfl) (by kernel_rfl) (by kernel_rfl) (by kernel_rfl) (fun _ _ _ h => h) (Or.inl ⟨by rfl, ?_⟩) hS ?_
              rotate_left
              focus ((intro w hSw; (try dsimp only at hSw); obtain ⟨d0, d1, d2, d3, d4⟩ := hSw; go_simp); (try with_reducible rfl))
              (try simp only [Act.put, List.setIfInBounds_toArray, List.set_cons_zero, List.set_cons_succ])
              refine wpAnyZ_take (i := 9) (oi := { dst := some 44, op := _, type := _, pos := _, after := _, guard := _ }) (v := ?_) rfl (by kernel_rfl) (by kernel_rfl) (by kernel_rfl) (by kernel_rfl) (fun _ _ _ h => h) (Or.inl ⟨by rfl, ?_⟩) hS ?_
              rotate_left
              focus ((intro w hSw; (try dsimp only at hSw); obtain ⟨d0, d1, d2, d3, d4⟩ := hSw; go_simp); (try with_reducible rfl))
              (try simp only [Act.put, List.setIfInBounds_toArray, List.set_cons_zero, List.set_cons_succ])
              refine wpAnyZ_take (i := 10) (oi := { dst := some 45, op := _, type := _, pos := _, after := _, guard := _ }) (v := ?_) rfl (by kernel_rfl) (by kernel_rfl) (by kernel_rfl) (by kernel_rfl) (fun _ _ _ h => h) (Or.inl ⟨by rfl, ?_⟩) hS ?_
              rotate_left
              focus ((intro w hSw; (try dsimp only at hSw); obtain ⟨d0, d1, d2, d3, d4⟩ := hSw; go_simp); (try with_reducible rfl))
              (try simp only [Act.put, List.setIfInBounds_toArray, List.set_cons_zero, List.set_cons_succ])
              refine wpAnyZ_take (i := 11) (oi := { dst := some 46, op := _, type := _, pos := _, after := _, guard := _ }) (v := ?_) rfl (by kernel_rfl) (by kernel_rfl) (by kernel_rfl) (by kernel_rfl) (fun _ _ _ h => h) (Or.inl ⟨by rfl, ?_⟩) hS ?_
              rotate_left
              focus ((intro w hSw; (try dsimp only at hSw); obtain ⟨d0, d1, d2, d3, d4⟩ := hSw; go_simp); (try with_reducible rfl))
              (try simp only [Act.put, List.setIfInBounds_toArray, List.set_cons_zero, List.set_cons_succ])
              refine wpAnyZ_take (i := 12) (oi := { dst := some 47, op := _, type := _, pos := _, after := _, guard := _ }) (v := ?_) rfl (by kernel_rfl) (by kernel_rfl) (by kernel_rfl) (by kernel_rfl) (fun _ _ _ h => h) (Or.inl ⟨by rfl, ?_⟩) hS ?_
              rotate_left
              focus ((intro w hSw; (try dsimp only at hSw); obtain ⟨d0, d1, d2, d3, d4⟩ := hSw; go_simp); (try with_reducible rfl))
              (try simp only [Act.put, List.setIfInBounds_toArray, List.set_cons_zero, List.set_cons_succ])
              refine wpAnyZ_all (rs := [13]) (by kernel_rfl) (by simp) (fun i hi => ?_)
              simp only [List.mem_cons, List.not_mem_nil, or_false] at hi
              subst hi
              refine stepZ (o := { dst := some 48, op := _, type := _, pos := _, after := _, guard := _ }) rfl (fun K hK => ?_)
              go_simp
              obtain ⟨gl, hgl⟩ : ∃ x, w8.heap.size = x := ⟨_, rfl⟩
              obtain ⟨wl, hwl⟩ : ∃ x, w8.alloc (.cells #[.int .i64 x0, .int .i64 x1, .string x2] 40) = x := ⟨_, rfl⟩
              have ll : Later w8 wl := hwl ▸ Later.new _ _
              have hlit : Has wl (some ⟨gl, 0, none⟩) [.int .i64 x0, .int .i64 x1, .string x2] := hwl ▸ (Blk.new w8 [.int .i64 x0, .int .i64 x1, .string x2].toArray 40 gl hgl.symm).has
              try rw [hgl]
              rw [hwl]
              have hS : (fun Y : World => Y.cell? ⟨g, k, none⟩ = some (.slice TA i tc) ∧ Y.cell? ⟨vb, vo + k * 3, none⟩ = some (.int .i64 x0) ∧ Y.cell? ⟨vb, vo + k * 3 + 1, none⟩ = some (.int .i64 x1) ∧ Y.cell? ⟨vb, vo + k * 3 + 2, none⟩ = some (.string x2) ∧ Y.cell? ⟨rb, ro + i, none⟩ = some (.slice (some ⟨vb, vo, none⟩) W rc)) wl := ⟨ll.cell hS.1, ll.cell hS.2.1, ll.cell hS.2.2.1, ll.cell hS.2.2.2.1, ll.cell hS.2.2.2.2⟩
              refine hK _ _ hS ?_
              clear hK hwl hgl
              (try simp only [Act.put, List.setIfInBounds_toArray, List.set_cons_zero, List.set_cons_succ])
              refine wpAnyZ_all (rs := [14]) (by kernel_rfl) (by simp) (fun i hi => ?_)
              simp only [List.mem_cons, List.not_mem_nil, or_false] at hi
              subst hi
              refine stepZ (o := { dst := some 49, op := _, type := _, pos := _, after := _, guard := _ }) rfl (fun K hK => ?_)
              refine step_append_x rfl (.tmp 40) (.tmp 48) 37 rfl (g + 1) 40 _ 3 32 Tryd.underlying37 info_v rfl (by decide) _ i (fl (colK (L.take i) k)) rfl (own_later HOW.out (l8.trans ll)) gl 0 1 1 [.int .i64 x0, .int .i64 x1, .string x2] rfl hlit rfl (by simp [Value.oneCell']) (by unfold maxLen; omega) (by omega) (by have := ll.size; have := l8.size; have := HGL.out; omega) ?_
              rintro A' c' wq ho hgr hbl hat hnl
              have hSq : (fun Y : World => Y.cell? ⟨g, k, none⟩ = some (.slice TA i tc) ∧ Y.cell? ⟨vb, vo + k * 3, none⟩ = some (.int .i64 x0) ∧ Y.cell? ⟨vb, vo + k * 3 + 1, none⟩ = some (.int .i64 x1) ∧ Y.cell? ⟨vb, vo + k * 3 + 2, none⟩ = some (.string x2) ∧ Y.cell? ⟨rb, ro + i, none⟩ = some (.slice (some ⟨vb, vo, none⟩) W rc)) wq := by
                have hg : g < wl.heap.size := by have := ll.size; have := l8.size; have := HGL.out; omega
                have hb : ∀ p : Addr, p.block < g + 1 → ∀ v, wl.cell? p = some v → wq.cell? p = some v := fun p hp v hv => (hbl.cell hp).trans hv
                exact ⟨hb _ (Nat.lt_succ_self _) _ hS.1, hb _ HVB.out _ hS.2.1, hb _ HVB.out _ hS.2.2.1, hb _ HVB.out _ hS.2.2.2.1, hb _ HRB.out _ hS.2.2.2.2⟩
              have HP := Lib.hid (HPUT.out wl wq A' c' (l8.trans ll) ho hgr hat hnl)
              have HLq := Lib.hid (show Later w (wq.setCell ⟨g, k, none⟩ (.slice A' (i + 1) c')) from Later.of ((((HLAT.out.trans l8).trans ll).below.trans (hbl.mono (by have := HGW.out; omega))).setCell (show w.heap.size ≤ g from HGW.out) _))
              have e0 := hSq.1
              have y0 : wq.frozen? ⟨g, k, none⟩ = false := HFZ.out wl wq (l8.trans ll) hbl
              clear ho hgr hbl hat hnl hS hlit ll
              refine hK _ _ hSq ?_
              clear hK
              (try simp only [Act.put, List.setIfInBounds_toArray, List.set_cons_zero, List.set_cons_succ])
              refine wpAnyZ_take (i := 15) (oi := { dst := some 50, op := _, type := _, pos := _, after := _, guard := _ }) (v := ?_) rfl (by kernel_rfl) (by kernel_rfl) (by kernel_rfl) (by kernel_rfl) (fun _ _ _ h => h) (Or.inl ⟨by rfl, ?_⟩) hSq ?_
              rotate_left
              focus ((intro w hSw; (try dsimp only at hSw); obtain ⟨d0, d1, d2, d3, d4⟩ := hSw; go_simp); (try with_reducible rfl))
              (try simp only [Act.put, List.setIfInBounds_toArray, List.set_cons_zero, List.set_cons_succ])
              refine wpAnyZ_all (rs := [16]) (by kernel_rfl) (by simp) (fun i hi => ?_)
              simp only [List.mem_cons, List.not_mem_nil, or_false] at hi
              subst hi
              refine stepZl (o := { dst := none, op := _, type := _, pos := _, after := _, guard := _ }) rfl (fun K hK => ?_)
              go_simp
              refine hK _ _ ?_
              clear hK
              (try simp only [Act.put, List.setIfInBounds_toArray, List.set_cons_zero, List.set_cons_succ])
              refine wpAnyZ_done (by kernel_rfl) ?_ _
              clear e0 y0 hSq
              obtain ⟨wz, hwz⟩ : ∃ x, wq.setCell ⟨g, k, none⟩ (.slice A' (i + 1) c') = x := ⟨_, rfl⟩
              rw [hwz] at HP HLq ⊢
              obtain ⟨ss', h1, h2⟩ := HP.out
              have HI := Lib.hid (CoI.mk (L := L) (W := W) (g := g) (F := fun k j => if j < k then i + 1 else i) (N := W) (w := w) (wr := wz) ((k : Int) + 1) (k + 1) ss' (by omega) (by omega) (h1.ext fun j hj => by
                (try dsimp only)
                by_cases e : j = k
                · subst e; rw [if_pos rfl, if_pos (by omega)]
                · rw [if_neg e]
                  by_cases e2 : j < k
                  · rw [if_pos e2, if_pos (by omega)]
                  · rw [if_neg e2, if_neg (by omega)]) h2 HLq.out)
              clear h1 h2 hwz HP HLq HPUT HOW HLAT
              have hwj : IntKind.i64.wrap ((k : Int) + 1) = (k : Int) + 1 := IntWalk.i64_in _ ⟨by omega, by omega⟩
              go_wp2_with fail
              go_roundw
              all_goals first
                | exact HI.out
                | (simp [intOf]; done)
                | (simp [intOf]; omega)
            · have hin : k = W := by omega
              subst hin
              have HI := Lib.hid (CoI.mk (L := L) (W := k) (g := g) (F := fun i _ => i) (N := n) (w := w) (wr := wr) ((i : Int) + 1) (i + 1) ts (by omega) (by omega) (htc.ext fun j hj => by
                (try dsimp only); rw [if_pos hj]) htab lat)
              clear htc htab lat
              have hwj : IntKind.i64.wrap ((i : Int) + 1) = (i : Int) + 1 := IntWalk.i64_in _ ⟨by omega, by omega⟩
              go_wp2_with fail
              go_roundw
              all_goals first
                | exact ⟨HI.out, fun j h hj => HALL2.out j h (by simp only [intOf] at hj; omega)⟩
                | (simp [intOf]; done)
                | (simp [intOf]; omega)
        · have cr := lat.cell cr0
          have HNO := Lib.hid (show ¬ ColsOk L (W : Int) from fun h => hlen (by have := (HOKZ.out.1 h).2 _ (List.getElem_mem his); omega))
          have hne : (((zs[i].l.length : Nat) : Int) != (W : Int)) = true := by simp; omega
          have HLAT := Lib.hid lat
          generalize zs[i].a = ra at cr
          generalize zs[i].c = rc at cr
          generalize zs[i].l.length = rl at cr hne
          clear htc htab lat hh0 cr0 hlen hlb
          go_wp2_with fail
          go_ret2
          exact .inr ⟨HNO.out, rfl, HLAT.out⟩
      · have hin : i = n := by omega
        subst hin
        have HOK := Lib.hid (show ColsOk L (W : Int) from HOKZ.out.2 ⟨by omega, fun s hs => by
          obtain ⟨j, hj, rfl⟩ := List.mem_iff_getElem.1 hs
          have := HALL.out j hj (by have := HN.out; omega)
          omega⟩)
        have HP := Lib.hid (show ColsP L W w (.returned (.tuple #[.slice (some ⟨g, 0, none⟩) W W, .bool true])) wr from ColsP.mk HOK.out (htc.ext fun j hj => by (try dsimp only); rw [HLN.out]) htab lat HGW.out)
        clear htc htab lat
        go_wp2_with fail
        go_ret2
        exact HP.out
  · have HNO := Lib.hid (show ¬ ColsOk (zs.map (·.l)) z from fun h => hz h.1)
    by_cases h1 : z < 1
    · clear hn hr hb
      go_enter Tryd.func10, Tryd.ntmps10
      go_wp2_with fail
      go_ret2
      exact .inr ⟨HNO.out, rfl, Later.refl _⟩
    · have h2 : 6 < z := by omega
      clear hn hr hb hz
      go_enter Tryd.func10, Tryd.ntmps10
      go_wp2_with fail
      go_ret2
      exact .inr ⟨HNO.out, rfl, Later.refl _⟩
end Go.Proofs.YtiacemlloaenoaaDoor
