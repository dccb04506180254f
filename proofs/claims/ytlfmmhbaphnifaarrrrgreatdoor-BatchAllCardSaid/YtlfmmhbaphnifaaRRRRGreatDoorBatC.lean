/- The walks of batch.check, batch.Columns and of the document's Columns. (tools/gen_batc.py) -/
import Derived.Test.YtlfmmhbaphnifaaRRRRGreatDoorColT
import Derived.Test.YtlfmmhbaphnifaaRRRRGreatDoorAsW
import Derived.Test.YtlfmmhbaphnifaaRRRRGreatDoorHeldZ
namespace Go.Proofs.YtlfmmhbaphnifaaRRRRGreatDoor
open Go.RowKit
set_option linter.unusedVariables false

/-- What package batch asks of the world's variables. -/
def S12 (w : World) : Prop := ErrT w ∧ CSent w 0
theorem S12.later {w w' : World} (h : S12 w) (l : Later w w') : S12 w' := ⟨h.1.later l, h.2.later l⟩

set_option maxRecDepth 100000 in
theorem bcheck_yes (A : Option Addr) (n c : Nat) (ss : List SlV) (W : Nat) (w : World) (hn : n = ss.length) (hl : n ≤ 100000) (hr : RowsAt w A ss) (hW : 1 ≤ W ∧ W ≤ 6) (hall : ∀ s ∈ ss, s.l.length = W) :
    Calls Tryz.prog 32 #[.slice A n c, .int .i64 W] w fun e w' => e = .returned .nilIface ∧ w = w' := by
  have h1 : ¬ (W : Int) < 1 := by omega
  have h2 : ¬ 6 < (W : Int) := by omega
  have HR := Lib.hid hr
  have HN := Lib.hid hn
  have HA := Lib.hid hall
  clear hr hn hall hW
  go_enter Tryz.func32, Tryz.ntmps32
  go_wp2_with fail
  go_loopw [18] (fun iv wr => ∃ k : Nat, k ≤ n ∧ iv = .int .i64 k ∧ w = wr) (fun i _ => n - (intOf i).toNat)
  case atStart => exact ⟨0, Nat.zero_le _, rfl, rfl⟩
  case round =>
    obtain ⟨k, hk, rfl, rfl⟩ := hrel
    by_cases hlt : k < n
    · have hks : k < ss.length := by have := HN.out; omega
      obtain ⟨b, off, hA, ck, _⟩ := HR.out.get k hks
      subst hA
      have hl := HA.out _ (List.getElem_mem hks)
      rw [hl] at ck
      generalize ss[k].a = ak at ck
      generalize ss[k].c = cck at ck
      clear hl
      have hWW : ((W : Int) != (W : Int)) = false := by simp
      go_wp2_with fail
      go_roundw
      case rel => exact ⟨k + 1, hlt, by go_num, by first | rfl | trivial⟩
      case measure => simp [intOf]; omega
    · go_wp2_with fail
      go_ret
      exact ⟨rfl, rfl⟩

set_option maxRecDepth 100000 in
theorem bcheck_no (A : Option Addr) (n c : Nat) (ss : List SlV) (z : Int) (w : World) (hn : n = ss.length) (hl : n ≤ 100000) (hr : RowsAt w A ss) (hs : CSent w 0) (hno : ¬ ((1 ≤ z ∧ z ≤ 6) ∧ ∀ s ∈ ss, (s.l.length : Int) = z)) :
    Calls Tryz.prog 32 #[.slice A n c, .int .i64 z] w fun e w' => (∃ q, e = .returned (.iface 63 (.pointer (some q)))) ∧ Later w w' := by
  obtain ⟨sa, hc⟩ := hs
  have HAT := Lib.hid (fun (s : ByteArray) (p : Int) => at_l s p (.pointer (some sa)) w)
  by_cases h1 : z < 1
  · clear hno hr
    go_enter Tryz.func32, Tryz.ntmps32
    go_wp2_with (go_at_call 46; refine (HAT.out _ _).mono ?_; rintro e w' ⟨q, rfl, L⟩; have HL := Lib.hid L; clear L)
    go_ret
    exact ⟨⟨_, rfl⟩, HL.out⟩
  · by_cases h2 : 6 < z
    · clear hno hr
      go_enter Tryz.func32, Tryz.ntmps32
      go_wp2_with (go_at_call 46; refine (HAT.out _ _).mono ?_; rintro e w' ⟨q, rfl, L⟩; have HL := Lib.hid L; clear L)
      go_ret
      exact ⟨⟨_, rfl⟩, HL.out⟩
    · have HR := Lib.hid hr
      have HN := Lib.hid hn
      have HNO := Lib.hid (fun (h : ∀ s ∈ ss, (s.l.length : Int) = z) => hno ⟨by omega, h⟩)
      have HC := Lib.hid hc
      clear hr hn hno
      go_enter Tryz.func32, Tryz.ntmps32
      go_wp2_with fail
      go_loopw [18] (fun iv wr => ∃ k : Nat, k ≤ n ∧ iv = .int .i64 k ∧ (∀ i (h : i < ss.length), i < k → (ss[i].l.length : Int) = z) ∧ w = wr) (fun i _ => n - (intOf i).toNat)
      case atStart => exact ⟨0, Nat.zero_le _, rfl, fun i h hi => by omega, rfl⟩
      case round =>
        obtain ⟨k, hk, rfl, hall, rfl⟩ := hrel
        have HALL := Lib.hid hall
        clear hall
        by_cases hlt : k < n
        · have hks : k < ss.length := by have := HN.out; omega
          obtain ⟨b, off, hA, ck, _⟩ := HR.out.get k hks
          subst hA
          have HLL := Lib.hid (show ∀ y, (ss[k].l.length : Int) = y → y = z → ∀ i (h : i < ss.length), i < k + 1 → (ss[i].l.length : Int) = z from fun y e1 e2 i h hi => by
            rcases Nat.lt_or_ge i k with h' | h'
            · exact HALL.out i h h'
            · obtain rfl : i = k := by omega
              rw [e1, e2])
          have HY := Lib.hid (rfl : (ss[k].l.length : Int) = (ss[k].l.length : Int))
          have HLL2 := Lib.hid (HLL.out _ HY.out)
          clear HLL HY
          generalize ss[k].a = ak at ck
          generalize ss[k].c = cck at ck
          generalize ss[k].l.length = lk at ck HLL2
          by_cases he : (lk : Int) = z
          · have hb : ((lk : Int) != z) = false := by simp [he]
            have HB := Lib.hid (HLL2.out he)
            clear he HLL2
            go_wp2_with fail
            go_roundw
            case rel => exact ⟨k + 1, hlt, by go_num, HB.out, by first | rfl | trivial⟩
            case measure => simp [intOf]; omega
          · have hb : ((lk : Int) != z) = true := by simp [he]
            clear he HLL2
            go_wp2_with (go_at_call 46; refine (HAT.out _ _).mono ?_; rintro e w' ⟨q, rfl, L⟩; have HL := Lib.hid L; clear L)
            go_ret
            exact ⟨⟨_, rfl⟩, HL.out⟩
        · exact absurd (fun s hs => by
            obtain ⟨i, hi, rfl⟩ := List.mem_iff_getElem.1 hs
            exact HALL.out i hi (by have := HN.out; omega)) HNO.out
theorem colsOk_of {ss : List SlV} {z : Int} : ColsOk (ss.map (·.l)) z ↔ ((1 ≤ z ∧ z ≤ 6) ∧ ∀ s ∈ ss, (s.l.length : Int) = z) := by
  unfold ColsOk
  constructor
  · rintro ⟨h1, h2⟩; exact ⟨h1, fun s hs => h2 _ (List.mem_map.2 ⟨s, hs, rfl⟩)⟩
  · rintro ⟨h1, h2⟩
    refine ⟨h1, fun r hr => ?_⟩
    obtain ⟨s, hs, rfl⟩ := List.mem_map.1 hr
    exact h2 s hs
theorem info_sv : (Tryz.prog.info? 26).map (fun i => (i.zero, i.size, i.bytes)) = some (some (.slice none 0 0), 1, 24) := by kernel_rfl
/-- Where the loops of Columns stand. -/
def CoI (L : List (List Val3)) (W g : Nat) (F : Nat → Nat → Nat) (N : Nat) (w : World) (iv : Value) (wr : World) : Prop :=
  ∃ (k : Nat) (ss : List SlG), iv = .int .i64 k ∧ k ≤ N ∧ TabC L W (F k) ss ∧ Tab 26 55 3 wr g ss ∧ Later w wr
theorem CoI.mk {L : List (List Val3)} {W g : Nat} {F : Nat → Nat → Nat} {N : Nat} {w wr : World} (y : Int) (k : Nat) (ss : List SlG) (hy : y = (k : Int)) (hk : k ≤ N) (h : TabC L W (F k) ss) (ht : Tab 26 55 3 wr g ss) (l : Later w wr) : CoI L W g F N w (.int .i64 y) wr := by
  subst hy; exact ⟨k, ss, rfl, hk, h, ht, l⟩

set_option maxRecDepth 100000 in
set_option maxHeartbeats 4000000 in
theorem columns_any (A : Option Addr) (n c : Nat) (zs : List SlV) (z : Int) (w : World) (hs : S12 w) (hn : n = zs.length) (hl : n ≤ 1000) (hr : RowsAt w A zs) :
    Calls Tryz.prog 11 #[.slice A n c, .int .i64 z] w (ColsP (zs.map (·.l)) z w) := by
  obtain ⟨w1, hw1⟩ : ∃ x, w.alloc (.cells #[.pointer none] 63) = x := ⟨_, rfl⟩
  have l1 : Later w w1 := hw1 ▸ Later.new _ _
  have b1 : Blk w1 w.heap.size #[.pointer none] 63 := hw1 ▸ Blk.new _ _ _ _ rfl
  have HW1 := Lib.hid hw1
  have HL1 := Lib.hid l1
  have HR1 := Lib.hid (hr.later l1)
  have HS1 := Lib.hid (hs.later l1)
  have HB1 := Lib.hid b1
  have HN := Lib.hid hn
  by_cases hok : ColsOk (zs.map (·.l)) z
  · obtain ⟨⟨hz1, hz6⟩, hall⟩ := colsOk_of.1 hok
    obtain ⟨W, rfl⟩ : ∃ W : Nat, z = (W : Int) := ⟨z.toNat, by omega⟩
    have HOK := Lib.hid hok
    have HALL := Lib.hid (fun s hs => by have := hall s hs; omega : ∀ s ∈ zs, s.l.length = W)
    have HCK := Lib.hid (bcheck_yes A n c zs W w1 hn (by omega) HR1.out (by omega) HALL.out)
    have hW : 1 ≤ W ∧ W ≤ 6 := by omega
    obtain ⟨L, hL⟩ : ∃ x, zs.map (·.l) = x := ⟨_, rfl⟩
    have HLL := Lib.hid hL
    have hLn : L.length = n := by rw [← hL, List.length_map, hn]
    rw [hL] at HOK ⊢
    have HLN := Lib.hid hLn
    have hmk := fun Wd => run_make_row' (P := Tryz.prog) 39 26 (.slice none 0 0) 24 Tryz.underlying39 info_sv rfl .i64 .i64 W (by omega) (by omega) Wd
    obtain ⟨g, hg⟩ : ∃ x, w1.heap.size = x := ⟨_, rfl⟩
    obtain ⟨w2, hw2⟩ : ∃ x, w1.alloc (.cells (madeCells #[.slice none 0 0] W) 26) = x := ⟨_, rfl⟩
    have l12 : Later w1 w2 := hw2 ▸ Later.new _ _
    have l2 : Later w w2 := l1.trans l12
    have HL12 := Lib.hid l12
    have HGW := Lib.hid (show w.heap.size ≤ g by rw [← hg]; exact l1.size)
    have HI0 := Lib.hid (CoI.mk (L := L) (W := W) (g := g) (F := fun k j => if j < k then n else 0) (N := W) (w := w) (wr := w2) 0 0 _ rfl (Nat.zero_le _) ((TabC.new L W).ext fun k _ => by simp) (hw2 ▸ Tab.new w1 _ _ 3 W g hg.symm) l2)
    have HW2 := Lib.hid hw2
    have HG := Lib.hid hg
    have HRW := Lib.hid hr
    clear hok hz1 hz6 hall hr hs hn hw1 l1 b1 hL hLn hw2 l2 hg l12
    go_enter Tryz.func11, Tryz.ntmps11
    go_wp2_with fail
    rw [HW1.out]
    refine HCK.out.mono ?_
    rintro e wX ⟨rfl, rfl⟩
    clear HCK
    go_wp2_with fail
    refine (as_nil _ _).mono ?_
    rintro e wX ⟨rfl, rfl⟩
    go_wp2_with fail
    clear hmk
    rw [HG.out, HW2.out]
    go_loopw [22] (fun iv wr => CoI L W g (fun k j => if j < k then n else 0) W w iv wr) (fun i _ => W - (intOf i).toNat)
    case atStart => exact HI0.out
    case round =>
      obtain ⟨k, ss, rfl, hk, htc, htab, lat⟩ := hrel
      clear HI0
      by_cases hlt : k < W
      · have HJ0 := Lib.hid (CoI.mk (L := L) (W := W) (g := g) (F := fun i j => if j < k then n else if j = k then i else 0) (N := n) (w := w) (wr := wr) 0 0 ss rfl (Nat.zero_le _) (htc.ext fun j hj => by dsimp only; split <;> simp) htab lat)
        clear htc htab lat
        go_wp2_with fail
        go_loopw [27] (fun iv wr => CoI L W g (fun i j => if j < k then n else if j = k then i else 0) n w iv wr) (fun i _ => n - (intOf i).toNat)
        case atStart => exact HJ0.out
        case round =>
          obtain ⟨i, ts, rfl, hi, htc, htab, lat⟩ := hrel
          clear HJ0
          by_cases hil : i < n
          · have his : i < zs.length := by have := HN.out; omega
            have hiL : i < L.length := by have := HLN.out; omega
            obtain ⟨rb, ro, hA, cr0, hh0, _⟩ := HRW.out.get i his
            subst hA
            have hlen : zs[i].l.length = W := HALL.out _ (List.getElem_mem his)
            obtain ⟨vb, vo, hV, u0, u1, u2⟩ := hh0.val3 k (by omega)
            have hx : L[i].getD k (0, 0, ⟨#[]⟩) = zs[i].l[k]'(by omega) := by
              have : L[i] = zs[i].l := by simp [← HLL.out]
              rw [this, List.getD_eq_getElem?_getD, List.getElem?_eq_getElem (by omega)]; rfl
            have hvb : vb < g + 1 := by have := block_lt_of_cell u0; have := HGW.out; dsimp only at *; omega
            have hrb : rb < g + 1 := by have := block_lt_of_cell cr0; have := HGW.out; dsimp only at *; omega
            have cr := lat.cell cr0
            have v0 := lat.cell u0
            have v1 := lat.cell u1
            have v2 := lat.cell u2
            clear cr0 u0 u1 u2 hh0
            obtain ⟨TA, tc, ck, how, hput⟩ := TabC.step htc htab k i hlt (by dsimp only; rw [if_neg (by omega), if_pos rfl]) hiL _ hx
            rw [hV] at cr
            rw [hlen] at cr
            generalize zs[i].l[k]'(by omega) = x at v0 v1 v2 how hput hx
            generalize zs[i].c = rc at cr
            obtain ⟨x0, x1, x2⟩ := x
            dsimp only at v0 v1 v2
            have HPUT := Lib.hid hput
            have HOW := Lib.hid how
            have HLAT := Lib.hid lat
            have HVB := Lib.hid hvb
            have HRB := Lib.hid hrb
            have HGL := Lib.hid htab.lt
            have HFZ := Lib.hid (fun (w1 w2 : World) (l : Later wr w1) (hb : Below (g + 1) w1 w2) => Blk.frozen (w := w2) (g := g) (cs := (ts.map SlG.v).toArray) (t := 26) ((hb.block g (Nat.lt_succ_self _)).trans (htab.later l).blk) k)
            have hki : (k : Int) < (W : Int) := by omega
            have hii : (i : Int) < (n : Int) := by omega
            clear hx htc htab lat hput how hV hlen hvb hrb hiL
            go_wp2_with fail
            refine wp_region_Z (S := fun Y : World => Y.cell? ⟨g, k, none⟩ = some (.slice TA i tc) ∧ Y.cell? ⟨vb, vo + k * 3, none⟩ = some (.int .i64 x0) ∧ Y.cell? ⟨vb, vo + k * 3 + 1, none⟩ = some (.int .i64 x1) ∧ Y.cell? ⟨vb, vo + k * 3 + 2, none⟩ = some (.string x2) ∧ Y.cell? ⟨rb, ro + i, none⟩ = some (.slice (some ⟨vb, vo, none⟩) W rc)) 13 (by kernel_rfl) ?_
            have hS : (fun Y : World => Y.cell? ⟨g, k, none⟩ = some (.slice TA i tc) ∧ Y.cell? ⟨vb, vo + k * 3, none⟩ = some (.int .i64 x0) ∧ Y.cell? ⟨vb, vo + k * 3 + 1, none⟩ = some (.int .i64 x1) ∧ Y.cell? ⟨vb, vo + k * 3 + 2, none⟩ = some (.string x2) ∧ Y.cell? ⟨rb, ro + i, none⟩ = some (.slice (some ⟨vb, vo, none⟩) W rc)) wr.drew := ⟨ck, v0, v1, v2, cr⟩
            obtain ⟨w8, hw8⟩ : ∃ x, wr.drew = x := ⟨_, rfl⟩
            have l8 : Later wr w8 := hw8 ▸ (Later.refl wr).drew
            rw [hw8] at hS ⊢
            clear hw8
            refine wpAnyZ_take (i := 0) (oi := { dst := some 31, op := _, type := _, pos := _, after := _, guard := _ }) (v := ?_) rfl (by kernel_rfl) (by kernel_rfl) (by kernel_rfl) (by kernel_rfl) (fun _ _ _ h => h) (Or.inl ⟨by rfl, ?_⟩) hS ?_
            rotate_left
            focus ((intro w hSw; (try dsimp only at hSw); obtain ⟨d0, d1, d2, d3, d4⟩ := hSw; go_simp); (try with_reducible rfl))
            (try simp only [Act.put, List.setIfInBounds_toArray, List.set_cons_zero, List.set_cons_succ])
            refine wpAnyZ_take (i := 1) (oi := { dst := some 32, op := _, type := _, pos := _, after := _, guard := _ }) (v := ?_) rfl (by kernel_rfl) (by kernel_rfl) (by kernel_rfl) (by kernel_rfl) (fun _ _ _ h => h) (Or.inl ⟨by rfl, ?_⟩) hS ?_
            rotate_left
            focus ((intro w hSw; (try dsimp only at hSw); obtain ⟨d0, d1, d2, d3, d4⟩ := hSw; go_simp); (try with_reducible rfl))
            (try simp only [Act.put, List.setIfInBounds_toArray, List.set_cons_zero, List.set_cons_succ])
            refine wpAnyZ_take (i := 2) (oi := { dst := some 33, op := _, type := _, pos := _, after := _, guard := _ }) (v := ?_) rfl (by kernel_rfl) (by kernel_rfl) (by kernel_rfl) (by kernel_rfl) (fun _ _ _ h => h) (Or.inl ⟨by rfl, ?_⟩) hS ?_
            rotate_left
            focus ((intro w hSw; (try dsimp only at hSw); obtain ⟨d0, d1, d2, d3, d4⟩ := hSw; go_simp); (try with_reducible rfl))
            (try simp only [Act.put, List.setIfInBounds_toArray, List.set_cons_zero, List.set_cons_succ])
            refine wpAnyZ_take (i := 3) (oi := { dst := some 34, op := _, type := _, pos := _, after := _, guard := _ }) (v := ?_) rfl (by kernel_rfl) (by kernel_rfl) (by kernel_rfl) (by kernel_rfl) (fun _ _ _ h => h) (Or.inl ⟨by rfl, ?_⟩) hS ?_
            rotate_left
            focus ((intro w hSw; (try dsimp only at hSw); obtain ⟨d0, d1, d2, d3, d4⟩ := hSw; go_simp); (try with_reducible rfl))
            (try simp only [Act.put, List.setIfInBounds_toArray, List.set_cons_zero, List.set_cons_succ])
            refine wpAnyZ_take (i := 4) (oi := { dst := some 35, op := _, type := _, pos := _, after := _, guard := _ }) (v := ?_) rfl (by kernel_rfl) (by kernel_rfl) (by kernel_rfl) (by kernel_rfl) (fun _ _ _ h => h) (Or.inl ⟨by rfl, ?_⟩) hS ?_
            rotate_left
            focus ((intro w hSw; (try dsimp only at hSw); obtain ⟨d0, d1, d2, d3, d4⟩ := hSw; go_simp); (try with_reducible rfl))
            (try simp only [Act.put, List.setIfInBounds_toArray, List.set_cons_zero, List.set_cons_succ])
            refine wpAnyZ_take (i := 5) (oi := { dst := some 36, op := _, type := _, pos := _, after := _, guard := _ }) (v := ?_) rfl (by kernel_rfl) (by kernel_rfl) (by kernel_rfl) (by kernel_rfl) (fun _ _ _ h => h) (Or.inl ⟨by rfl, ?_⟩) hS ?_
            rotate_left
            focus ((intro w hSw; (try dsimp only at hSw); obtain ⟨d0, d1, d2, d3, d4⟩ := hSw; go_simp); (try with_reducible rfl))
            (try simp only [Act.put, List.setIfInBounds_toArray, List.set_cons_zero, List.set_cons_succ])
            refine wpAnyZ_take (i := 6) (oi := { dst := some 37, op := _, type := _, pos := _, after := _, guard := _ }) (v := ?_) rfl (by kernel_rfl) (by kernel_rfl) (by kernel_rfl) (by kernel_rfl) (fun _ _ _ h => h) (Or.inl ⟨by rfl, ?_⟩) hS ?_
            rotate_left
            focus ((intro w hSw; (try dsimp only at hSw); obtain ⟨d0, d1, d2, d3, d4⟩ := hSw; go_simp); (try with_reducible rfl))
            (try simp only [Act.put, List.setIfInBounds_toArray, List.set_cons_zero, List.set_cons_succ])
            refine wpAnyZ_take (i := 7) (oi := { dst := some 38, op := _, type := _, pos := _, after := _, guard := _ }) (v := ?_) rfl (by kernel_rfl) (by kernel_rfl) (by kernel_rfl) (by kernel_rfl) (fun _ _ _ h => h) (Or.inl ⟨by rfl, ?_⟩) hS ?_
            rotate_left
            focus ((intro w hSw; (try dsimp only at hSw); obtain ⟨d0, d1, d2, d3, d4⟩ := hSw; go_simp); (try with_reducible rfl))
            (try simp only [Act.put, List.setIfInBounds_toArray, List.set_cons_zero, List.set_cons_succ])
            refine wpAnyZ_take (i := 8) (oi := { dst := some 39, op := _, type := _, pos := _, after := _, guard := _ }) (v := ?_) rfl (by kernel_rfl) (by kernel_rfl) (by kernel_rfl) (by kernel_rfl) (fun _ _ _ h => h) (Or.inl ⟨by rfl, ?_⟩) hS ?_
            rotate_left
            focus ((intro w hSw; (try dsimp only at hSw); obtain ⟨d0, d1, d2, d3, d4⟩ := hSw; go_simp); (try with_reducible rfl))
            (try simp only [Act.put, List.setIfInBounds_toArray, List.set_cons_zero, List.set_cons_succ])
            refine wpAnyZ_take (i := 9) (oi := { dst := some 40, op := _, type := _, pos := _, after := _, guard := _ }) (v := ?_) rfl (by kernel_rfl) (by kernel_rfl) (by kernel_rfl) (by kernel_rfl) (fun _ _ _ h => h) (Or.inl ⟨by rfl, ?_⟩) hS ?_
            rotate_left
            focus ((intro w hSw; (try dsimp only at hSw); obtain ⟨d0, d1, d2, d3, d4⟩ := hSw; go_simp); (try with_reducible rfl))
            (try simp only [Act.put, List.setIfInBounds_toArray, List.set_cons_zero, List.set_cons_succ])
            refine wpAnyZ_all (rs := [10]) (by kernel_rfl) (by simp) (fun i hi => ?_)
            simp only [List.mem_cons, List.not_mem_nil, or_false] at hi
            subst hi
            refine stepZ (o := { dst := some 41, op := _, type := _, pos := _, after := _, guard := _ }) rfl (fun K hK => ?_)
            go_simp
            obtain ⟨gl, hgl⟩ : ∃ x, w8.heap.size = x := ⟨_, rfl⟩
            obtain ⟨wl, hwl⟩ : ∃ x, w8.alloc (.cells #[.int .i64 x0, .int .i64 x1, .string x2] 55) = x := ⟨_, rfl⟩
            have ll : Later w8 wl := hwl ▸ Later.new _ _
            have hlit : Has wl (some ⟨gl, 0, none⟩) [.int .i64 x0, .int .i64 x1, .string x2] := hwl ▸ (Blk.new w8 [.int .i64 x0, .int .i64 x1, .string x2].toArray 55 gl hgl.symm).has
            try rw [hgl]
            rw [hwl]
            have hS : (fun Y : World => Y.cell? ⟨g, k, none⟩ = some (.slice TA i tc) ∧ Y.cell? ⟨vb, vo + k * 3, none⟩ = some (.int .i64 x0) ∧ Y.cell? ⟨vb, vo + k * 3 + 1, none⟩ = some (.int .i64 x1) ∧ Y.cell? ⟨vb, vo + k * 3 + 2, none⟩ = some (.string x2) ∧ Y.cell? ⟨rb, ro + i, none⟩ = some (.slice (some ⟨vb, vo, none⟩) W rc)) wl := ⟨ll.cell hS.1, ll.cell hS.2.1, ll.cell hS.2.2.1, ll.cell hS.2.2.2.1, ll.cell hS.2.2.2.2⟩
            refine hK _ _ hS ?_
            clear hK hwl hgl
            (try simp only [Act.put, List.setIfInBounds_toArray, List.set_cons_zero, List.set_cons_succ])
            refine wpAnyZ_all (rs := [11]) (by kernel_rfl) (by simp) (fun i hi => ?_)
            simp only [List.mem_cons, List.not_mem_nil, or_false] at hi
            subst hi
            refine stepZ (o := { dst := some 42, op := _, type := _, pos := _, after := _, guard := _ }) rfl (fun K hK => ?_)
            refine step_append_x rfl (.tmp 36) (.tmp 41) 26 rfl (g + 1) 55 _ 3 32 Tryz.underlying26 info_v rfl (by decide) _ i (fl (colK (L.take i) k)) rfl (own_later HOW.out (l8.trans ll)) gl 0 1 1 [.int .i64 x0, .int .i64 x1, .string x2] rfl hlit rfl (by simp [Value.oneCell']) (by unfold maxLen; omega) (by omega) (by have := ll.size; have := l8.size; have := HGL.out; omega) ?_
            rintro A' c' wq ho hgr hbl hat hnl
            have hSq : (fun Y : World => Y.cell? ⟨g, k, none⟩ = some (.slice TA i tc) ∧ Y.cell? ⟨vb, vo + k * 3, none⟩ = some (.int .i64 x0) ∧ Y.cell? ⟨vb, vo + k * 3 + 1, none⟩ = some (.int .i64 x1) ∧ Y.cell? ⟨vb, vo + k * 3 + 2, none⟩ = some (.string x2) ∧ Y.cell? ⟨rb, ro + i, none⟩ = some (.slice (some ⟨vb, vo, none⟩) W rc)) wq := by
              have hg : g < wl.heap.size := by have := ll.size; have := l8.size; have := HGL.out; omega
              have hb : ∀ p : Addr, p.block < g + 1 → ∀ v, wl.cell? p = some v → wq.cell? p = some v := fun p hp v hv => (hbl.cell hp).trans hv
              exact ⟨hb _ (Nat.lt_succ_self _) _ hS.1, hb _ HVB.out _ hS.2.1, hb _ HVB.out _ hS.2.2.1, hb _ HVB.out _ hS.2.2.2.1, hb _ HRB.out _ hS.2.2.2.2⟩
            have HP := Lib.hid (HPUT.out wl wq A' c' (l8.trans ll) ho hgr hat hnl)
            have HLq := Lib.hid (show Later w (wq.setCell ⟨g, k, none⟩ (.slice A' (i + 1) c')) from Later.of ((((HLAT.out.trans l8).trans ll).below.trans (hbl.mono (by have := HGW.out; omega))).setCell (show w.heap.size ≤ g from HGW.out) _))
            have e0 := hSq.1
            have y0 : wq.frozen? ⟨g, k, none⟩ = false := HFZ.out wl wq (l8.trans ll) hbl
            clear ho hgr hbl hat hnl hS hlit ll
            refine hK _ _ hSq ?_
            clear hK
            (try simp only [Act.put, List.setIfInBounds_toArray, List.set_cons_zero, List.set_cons_succ])
            refine wpAnyZ_take (i := 12) (oi := { dst := some 43, op := _, type := _, pos := _, after := _, guard := _ }) (v := ?_) rfl (by kernel_rfl) (by kernel_rfl) (by kernel_rfl) (by kernel_rfl) (fun _ _ _ h => h) (Or.inl ⟨by rfl, ?_⟩) hSq ?_
            rotate_left
            focus ((intro w hSw; (try dsimp only at hSw); obtain ⟨d0, d1, d2, d3, d4⟩ := hSw; go_simp); (try with_reducible rfl))
            (try simp only [Act.put, List.setIfInBounds_toArray, List.set_cons_zero, List.set_cons_succ])
            refine wpAnyZ_all (rs := [13]) (by kernel_rfl) (by simp) (fun i hi => ?_)
            simp only [List.mem_cons, List.not_mem_nil, or_false] at hi
            subst hi
            refine stepZl (o := { dst := none, op := _, type := _, pos := _, after := _, guard := _ }) rfl (fun K hK => ?_)
            go_simp
            refine hK _ _ ?_
            clear hK
            (try simp only [Act.put, List.setIfInBounds_toArray, List.set_cons_zero, List.set_cons_succ])
            refine wpAnyZ_done (by kernel_rfl) ?_ _
            clear e0 y0 hSq
            obtain ⟨wz, hwz⟩ : ∃ x, wq.setCell ⟨g, k, none⟩ (.slice A' (i + 1) c') = x := ⟨_, rfl⟩
            rw [hwz] at HP HLq ⊢
            obtain ⟨ss', h1, h2⟩ := HP.out
            have HI := Lib.hid (CoI.mk (L := L) (W := W) (g := g) (F := fun i j => if j < k then n else if j = k then i else 0) (N := n) (w := w) (wr := wz) ((i : Int) + 1) (i + 1) ss' (by omega) (by omega) (h1.ext fun j hj => by
              (try dsimp only)
              by_cases e : j = k
              · subst e; rw [if_pos rfl, if_neg (by omega), if_pos rfl]
              · rw [if_neg e, if_neg e]; split <;> rfl) h2 HLq.out)
            clear h1 h2 hwz HP HLq HPUT HOW HLAT
            have hwj : IntKind.i64.wrap ((i : Int) + 1) = (i : Int) + 1 := IntWalk.i64_in _ ⟨by omega, by omega⟩
            go_wp2_with fail
            go_roundw
            all_goals first
              | exact HI.out
              | (simp [intOf]; done)
              | (simp [intOf]; omega)
          · have hin : i = n := by omega
            subst hin
            have HI := Lib.hid (CoI.mk (L := L) (W := W) (g := g) (F := fun k j => if j < k then i else 0) (N := W) (w := w) (wr := wr) ((k : Int) + 1) (k + 1) ts (by omega) (by omega) (htc.ext fun j hj => by
              (try dsimp only)
              by_cases e : j < k
              · rw [if_pos e, if_pos (by omega)]
              · rw [if_neg e]
                by_cases e2 : j = k
                · rw [if_pos e2, if_pos (by omega)]
                · rw [if_neg e2, if_neg (by omega)]) htab lat)
            clear htc htab lat
            have hwj : IntKind.i64.wrap ((k : Int) + 1) = (k : Int) + 1 := IntWalk.i64_in _ ⟨by omega, by omega⟩
            go_wp2_with fail
            go_roundw
            all_goals first
              | exact HI.out
              | (simp [intOf]; done)
              | (simp [intOf]; omega)
      · have hkW : k = W := by omega
        subst hkW
        have HP := Lib.hid (show ColsP L k w (.returned (.tuple #[.slice (some ⟨g, 0, none⟩) k k, .bool true])) wr from ColsP.mk HOK.out (htc.ext fun j hj => by (try dsimp only); rw [if_pos hj, HLN.out]) htab lat HGW.out)
        clear htc htab lat
        go_wp2_with fail
        go_ret2
        exact HP.out
  · have HNO := Lib.hid hok
    have HCK := Lib.hid (bcheck_no A n c zs z w1 hn (by omega) HR1.out HS1.out.2 (fun h => hok (colsOk_of.2 h)))
    have HSZ := Lib.hid (show w.heap.size < w1.heap.size from b1.lt)
    clear hok hr hs hn hw1 l1 b1
    go_enter Tryz.func11, Tryz.ntmps11
    go_wp2_with fail
    rw [HW1.out]
    refine HCK.out.mono ?_
    rintro e w2 ⟨⟨q, rfl⟩, l2⟩
    have b2 := HB1.out.later l2
    have HA := Lib.hid (as_hitW q ⟨w.heap.size, 0, none⟩ (.pointer none) w2 (HS1.out.1.later l2) (b2.cell 0 _ rfl) (b2.frozen 0))
    have HL := Lib.hid ((HL1.out.trans (l2.trans (awW_later w2 ⟨w.heap.size, 0, none⟩ (some q)))).set_ (p := ⟨w.heap.size, 0, none⟩) (Nat.le_refl _) (.pointer (some q)))
    clear HCK l2 b2
    go_wp2_with fail
    refine HA.out.mono ?_
    rintro e w3 ⟨rfl, rfl⟩
    go_wp2_with fail
    go_ret2
    exact .inr ⟨HNO.out, rfl, HL.out⟩
end Go.Proofs.YtlfmmhbaphnifaaRRRRGreatDoor
