/- The walk of BatchAll: begun (tools/gen_ball.py). -/
import Derived.Test.YtlfmmhbaphnifaaRRRRGreatDoorBeg12
import Derived.Test.YtlfmmhbaphnifaaRRRRGreatDoorPlayS
import Derived.Test.YtlfmmhbaphnifaaRRRRGreatDoorPlayO
import Derived.Test.YtlfmmhbaphnifaaRRRRGreatDoorKripke
import Derived.Test.YtlfmmhbaphnifaaRRRRGreatDoorC3
import Derived.Test.YtlfmmhbaphnifaaRRRRGreatDoorRRow
import Derived.Test.YtlfmmhbaphnifaaRRRRGreatDoorRBag
import Derived.Test.YtlfmmhbaphnifaaRRRRGreatDoorRPick
import Derived.Test.YtlfmmhbaphnifaaRRRRGreatDoorBagW
import Derived.Test.YtlfmmhbaphnifaaRRRRGreatDoorRefC
namespace Go.Proofs.YtlfmmhbaphnifaaRRRRGreatDoor
open Go.RowKit
set_option linter.unusedVariables false

theorem rows_bnd {zs : List SlV} (h6 : zs.length ≤ 6) (h12 : ∀ s ∈ zs, s.l.length ≤ 12) : (rowsC (colsOf zs)).length ≤ 12 ∧ ∀ x ∈ rowsC (colsOf zs), x.length ≤ 6 := by
  refine ⟨?_, fun x hx => ?_⟩
  · unfold rowsC
    rw [List.length_map, List.length_range]
    rcases zs with _ | ⟨s, r⟩
    · simp [colsOf, heightC]
    · exact Nat.le_trans (heightC_le (x := s.l) (by simp [colsOf])) (h12 s (by simp))
  · unfold rowsC at hx
    obtain ⟨i, _, rfl⟩ := List.mem_map.1 hx
    rw [rowAt_len]
    unfold colsOf
    rw [List.length_map]; exact h6
open Classical in
/-- The columns of a lot, or none. -/
noncomputable def lotC (L : List (List Val3)) (W : Int) : List (List Val3) := if ColsOk L W then colsT L W.toNat else []
theorem ColsP.lot {L : List (List Val3)} {W : Int} {w w' : World} {e : Ending} (h : ColsP L W w e w') (hl : L.length ≤ 12) :
    ∃ (X : Option Addr) (cx : Nat) (zs : List SlV) (ok : Bool), e = .returned (.tuple #[.slice X zs.length cx, .bool ok]) ∧ RowsAt w' X zs ∧ (ok = true ↔ ColsOk L W) ∧ zs.map (·.l) = lotC L W ∧ zs.length ≤ 6 ∧ (∀ s ∈ zs, s.l.length ≤ 12) ∧ Later w w' := by
  by_cases hk : ColsOk L W
  · obtain ⟨g, zs, h1, h2, h3, h4, h5⟩ := h.yes hk
    have hW := hk.1
    refine ⟨_, _, zs, true, h1, h4, by simp [hk], ?_, by omega, fun s hs => ?_, h5⟩
    · unfold lotC
      rw [if_pos hk, h3, show W.toNat = zs.length by omega]
    · have hm : s.l ∈ colsT L zs.length := by rw [← h3]; exact List.mem_map.2 ⟨s, hs, rfl⟩
      obtain ⟨j, _, hj⟩ := List.mem_map.1 hm
      rw [← hj, colK_len]; exact hl
  · obtain ⟨h1, h2⟩ := h.no hk
    exact ⟨none, 0, [], false, h1, ⟨.inl rfl, fun s hs => by cases hs⟩, by simp [hk], by unfold lotC; rw [if_neg hk]; rfl, Nat.zero_le _, (fun s hs => by cases hs), h2⟩
set_option maxRecDepth 100000 in
theorem batchAll_long0 (A B P D : Option Addr) (n c m d p e r f : Nat) (z : Int) (w : World) (hs : S12 w)  (h : 12 < n) :
    Calls Tryz.prog 3 #[.slice A n c, .slice B m d, .int .i64 z, .slice P p e, .slice D r f] w fun e w' => e = .returned (.bool true) ∧ Later w w' := by
  have HB := Lib.hid (begun12_any w hs)
  clear hs
  go_enter Tryz.func3, Tryz.ntmps3
  go_wp2_with fail
  refine HB.out.mono ?_
  rintro e w1 ⟨rfl, l1⟩
  have HL1 := Lib.hid l1
  clear l1 HB
  have h0 : (12 : Int) < (n : Int) := by omega
  go_wp2_with fail
  go_ret
  exact ⟨rfl, HL1.out⟩
set_option maxRecDepth 100000 in
theorem batchAll_long1 (A B P D : Option Addr) (n c m d p e r f : Nat) (z : Int) (w : World) (hs : S12 w) (g0 : ¬ 12 < n) (h : 12 < m) :
    Calls Tryz.prog 3 #[.slice A n c, .slice B m d, .int .i64 z, .slice P p e, .slice D r f] w fun e w' => e = .returned (.bool true) ∧ Later w w' := by
  have HB := Lib.hid (begun12_any w hs)
  clear hs
  go_enter Tryz.func3, Tryz.ntmps3
  go_wp2_with fail
  refine HB.out.mono ?_
  rintro e w1 ⟨rfl, l1⟩
  have HL1 := Lib.hid l1
  clear l1 HB
  have h0 : ¬ (12 : Int) < (n : Int) := by omega
  have h1 : (12 : Int) < (m : Int) := by omega
  go_wp2_with fail
  go_ret
  exact ⟨rfl, HL1.out⟩
set_option maxRecDepth 100000 in
theorem batchAll_long2 (A B P D : Option Addr) (n c m d p e r f : Nat) (z : Int) (w : World) (hs : S12 w) (g0 : ¬ 12 < n) (g1 : ¬ 12 < m) (h : 60 < p) :
    Calls Tryz.prog 3 #[.slice A n c, .slice B m d, .int .i64 z, .slice P p e, .slice D r f] w fun e w' => e = .returned (.bool true) ∧ Later w w' := by
  have HB := Lib.hid (begun12_any w hs)
  clear hs
  go_enter Tryz.func3, Tryz.ntmps3
  go_wp2_with fail
  refine HB.out.mono ?_
  rintro e w1 ⟨rfl, l1⟩
  have HL1 := Lib.hid l1
  clear l1 HB
  have h0 : ¬ (12 : Int) < (n : Int) := by omega
  have h1 : ¬ (12 : Int) < (m : Int) := by omega
  have h2 : (60 : Int) < (p : Int) := by omega
  go_wp2_with fail
  go_ret
  exact ⟨rfl, HL1.out⟩
set_option maxRecDepth 100000 in
theorem batchAll_long3 (A B P D : Option Addr) (n c m d p e r f : Nat) (z : Int) (w : World) (hs : S12 w) (g0 : ¬ 12 < n) (g1 : ¬ 12 < m) (g2 : ¬ 60 < p) (h : 20 < r) :
    Calls Tryz.prog 3 #[.slice A n c, .slice B m d, .int .i64 z, .slice P p e, .slice D r f] w fun e w' => e = .returned (.bool true) ∧ Later w w' := by
  have HB := Lib.hid (begun12_any w hs)
  clear hs
  go_enter Tryz.func3, Tryz.ntmps3
  go_wp2_with fail
  refine HB.out.mono ?_
  rintro e w1 ⟨rfl, l1⟩
  have HL1 := Lib.hid l1
  clear l1 HB
  have h0 : ¬ (12 : Int) < (n : Int) := by omega
  have h1 : ¬ (12 : Int) < (m : Int) := by omega
  have h2 : ¬ (60 : Int) < (p : Int) := by omega
  have h3 : (20 : Int) < (r : Int) := by omega
  go_wp2_with fail
  go_ret
  exact ⟨rfl, HL1.out⟩
set_option maxRecDepth 100000 in
set_option maxHeartbeats 8000000 in
theorem batchAll_walk (A B P D : Option Addr) (n c m d p e r f : Nat) (z : Int) (ss ts : List SlV) (bs : List Nat) (sel : List Int) (w : World) (hs : S12 w) (hz64 : In64 z) (hn : n ≤ 12) (hm : m ≤ 12) (hp : p ≤ 60) (hr2 : r ≤ 20)
    (hns : n = ss.length) (hmt : m = ts.length) (hb : bs.length = p) (hrs : r = sel.length) (ha : RowsAt w A ss) (hbb : RowsAt w B ts) (za : A = none → c = 0) (zb : B = none → d = 0) (hpr : Has w P (ints .u8 bs)) (h256 : ∀ x ∈ bs, x < 256) (hd : Has w D (zin sel)) :
    Calls Tryz.prog 3 #[.slice A n c, .slice B m d, .int .i64 z, .slice P p e, .slice D r f] w fun e w' => e = .returned (.bool true) ∧ Later w w' := by
  have HB := Lib.hid (begun12_any w hs)
  have HSS0 := Lib.hid hs
  have HR := Lib.hid hpr
  have hc : PkC p bs := ⟨by omega, hb, h256⟩
  have HCC := Lib.hid hc
  have HNS := Lib.hid hns
  have HMT := Lib.hid hmt
  have HRS2 := Lib.hid hrs
  have HAA := Lib.hid ha
  have HBB := Lib.hid hbb
  have HDD := Lib.hid hd
  have HZA := Lib.hid za
  have HZB := Lib.hid zb
  clear hs hns hmt hb hrs ha hbb za zb hpr h256 hd hc
  go_enter Tryz.func3, Tryz.ntmps3
  go_wp2_with fail
  refine HB.out.mono ?_
  rintro e w1 ⟨rfl, l1⟩
  have HL1 := Lib.hid l1
  have HR1 := Lib.hid (HR.out.later l1)
  have HAA := Lib.hid (HAA.out.later l1)
  have HBB := Lib.hid (HBB.out.later l1)
  have HDD := Lib.hid (HDD.out.later l1)
  clear l1 HB HR
  have h0 : ¬ (12 : Int) < (n : Int) := by omega
  have h1 : ¬ (12 : Int) < (m : Int) := by omega
  have h2 : ¬ (60 : Int) < (p : Int) := by omega
  have h3 : ¬ (20 : Int) < (r : Int) := by omega
  go_wp2_with fail
  go_loopw [11] (fun iv wr => ∃ k : Nat, k ≤ n ∧ iv = .int .i64 k ∧ (∀ j (h : j < ss.length), j < k → ss[j].l.length ≤ 8) ∧ w1 = wr) (fun i _ => n - (intOf i).toNat)
  case atStart => exact ⟨0, Nat.zero_le _, rfl, fun j h hj => absurd hj (Nat.not_lt_zero _), rfl⟩
  case round =>
    obtain ⟨k, hk, rfl, hall, rfl⟩ := hrel
    have HALL := Lib.hid hall
    clear hall
    by_cases hlt : k < n
    · have hks : k < ss.length := by have := HNS.out; omega
      obtain ⟨rb, ro, hA, ck, _, hcx, hcm, _⟩ := HAA.out.get k hks
      subst hA
      have HST := Lib.hid (fun (h : ss[k].l.length ≤ 8) => show ∀ j (h : j < ss.length), j < k + 1 → ss[j].l.length ≤ 8 from fun j h' hj => by
        rcases Nat.lt_or_ge j k with h3 | h3
        · exact HALL.out j h' h3
        · obtain rfl : j = k := by omega
          exact h)
      generalize ss[k].a = ak at ck
      generalize ss[k].c = cck at ck hcx hcm
      generalize ss[k].l.length = lk at ck HST hcx
      by_cases h8 : lk ≤ 8
      · have h8i : ¬ (8 : Int) < (lk : Int) := by omega
        have HS2 := Lib.hid (HST.out h8)
        clear HST
        go_wp2_with fail
        go_roundw
        all_goals first
          | exact ⟨k + 1, hlt, by go_num, HS2.out, by first | rfl | trivial⟩
          | (simp [intOf]; omega)
      · have h8i : (8 : Int) < (lk : Int) := by omega
        clear HST
        go_wp2_with fail
        go_ret
        exact ⟨rfl, HL1.out⟩
    · have HLA := Lib.hid (show ∀ s ∈ ss, s.l.length ≤ 8 from fun s hs => by
        obtain ⟨j, hj, rfl⟩ := List.mem_iff_getElem.1 hs
        exact HALL.out j hj (by have := HNS.out; omega))
      clear HALL h0 h1 h2 h3
      obtain ⟨g, hg⟩ : ∃ g, w1.heap.size = g := ⟨_, rfl⟩
      go_wp2_with (go_at_call 8; refine (made_any P p e _).mono ?_; rintro e w2 ⟨rfl, hw2⟩)
      have l2 : Later w1 w2 := hw2 ▸ Later.new _ _
      have HPK2 := Lib.hid (show Pks w2 g P p e bs from ⟨⟨0, Nat.zero_le _, hw2 ▸ Blk.new _ _ _ g hg.symm⟩, by
        have h := HR1.out
        rcases h with h | ⟨b, off, hA, hb, hcc⟩
        · exact .inl h
        · exact .inr ⟨b, off, hA, by omega, fun k v hv => l2.cell (hcc k v hv)⟩⟩)
      have HL2 := Lib.hid l2
      have HPK2L := Lib.hid HPK2.out.lt
      have HG0 := Lib.hid hg
      clear l2 hw2 HR1 hg
      refine (schema_any g P p e bs w2 HCC.out HPK2.out).mono ?_
      rintro e w3 ⟨t0, mm, tys, V, vc, es, E, ec, d0, d1, d2, rfl, ⟨hm, htl, ht0, htys⟩, ⟨hes, het, hlay⟩, rs⟩
      obtain ⟨cols, hcols⟩ : ∃ x, playCols t0 mm tys = x := ⟨_, rfl⟩
      rw [hcols] at rs
      have hcl : cols.length = mm + 2 := by rw [← hcols, playCols_len, htl]
      obtain ⟨vn, hvn⟩ : ∃ x, mm + 2 = x := ⟨_, rfl⟩
      rw [hvn] at rs hcl
      rw [hvn]
      have hvb : 2 ≤ vn ∧ vn ≤ 4 := by omega
      have HCL := Lib.hid hcl
      have hVX : HasX (some g) w3 V (fc cols) := HasX.own rs.oV fun _ h => by injection h with h; rw [← h]; exact rs.far.1
      have HRS := Lib.hid rs
      obtain ⟨gs, hgs⟩ : ∃ x, w3.heap.size = x := ⟨_, rfl⟩
      have HGG := Lib.hid (show g < gs by rw [← hgs]; exact Nat.lt_of_lt_of_le HPK2.out.lt rs.far.size)
      obtain ⟨w4, hw4⟩ : ∃ x : World, (w3.alloc (.cells #[.slice V vn vc, .int .i64 vn] 32)).alloc (.cells #[.int .i64 d0, .int .i64 d1, .int .i64 d2, .slice E vn ec] 34) = x := ⟨_, rfl⟩
      have l4 : Later w3 w4 := hw4 ▸ (Later.new _ _).alloc _
      have HS4 := Lib.hid (show Blk w4 gs #[.slice V vn vc, .int .i64 vn] 32 from hw4 ▸ (Blk.new w3 _ _ gs hgs.symm).later (Later.new _ _))
      have HGS4 := Lib.hid (show gs < w4.heap.size from HS4.out.lt)
      have hz4 : w4.heap.size = gs + 2 := by rw [← hw4, ← hgs]; simp
      have HP4 := Lib.hid (rs.pk.later l4)
      have HF4 := Lib.hid (rs.far.later l4)
      have HV4 := Lib.hid (hVX.later l4)
      clear hcols hvn hcl l4 HRS rs htys het hlay hes ht0 htl HPK2 hVX
      have s0 := HS4.out.cell 0 _ rfl
      have s1 := HS4.out.cell 1 _ rfl
      go_wp2_with fail
      refine (rows_any 12 g P p e bs V vn vc vn cols w4 HCC.out HP4.out HCL.out.symm (by omega) (by omega) HV4.out).mono ?_
      rintro e' w5 ⟨rs', Lr, lc, rfl, hss, hon, hfit, hp5, hf5⟩
      have HRA := Lib.hid (hon.at_)
      have HSS := Lib.hid hss
      have HLEN := Lib.hid (fun s hs => ((hfit s hs).2.1.trans HCL.out) : ∀ s ∈ rs', s.l.length = vn)
      have HS5 := Lib.hid (hf5.blk HS4.out (by have := HGG.out; omega))
      have HL15 := Lib.hid ((HF4.out.trans hf5).out HG0.out.symm HL2.out)
      have HL5 := Lib.hid (HL1.out.trans HL15.out)
      have HAA := Lib.hid (HAA.out.later HL15.out)
      have HBB := Lib.hid (HBB.out.later HL15.out)
      have HDD := Lib.hid (HDD.out.later HL15.out)
      clear hss hon hfit hp5 hf5 HP4 HV4 HS4 HF4 s0 s1 hw4 hz4 HGG HPK2L HCC HL1 HL2 HG0 hgs HCL HGS4
      obtain ⟨g15, hg15⟩ : ∃ x, w5.heap.size = x := ⟨_, rfl⟩
      obtain ⟨w6, hw6⟩ : ∃ x : World, w5.alloc (.cells #[.slice A n c, .slice Lr 12 lc] 22) = x := ⟨_, rfl⟩
      obtain ⟨g16, hg16⟩ : ∃ x, w6.heap.size = x := ⟨_, rfl⟩
      obtain ⟨w7, hw7⟩ : ∃ x : World, w6.alloc (.cells #[.int .i64 z, .int .i64 vn] 3) = x := ⟨_, rfl⟩
      have l6 : Later w5 w6 := hw6 ▸ Later.new _ _
      have l7 : Later w6 w7 := hw7 ▸ Later.new _ _
      have HB15 := Lib.hid (show Blk w7 g15 #[.slice A n c, .slice Lr 12 lc] 22 from (show Blk w6 g15 #[.slice A n c, .slice Lr 12 lc] 22 from hw6 ▸ Blk.new _ _ _ _ hg15.symm).later l7)
      have HB16 := Lib.hid (show Blk w7 g16 #[.int .i64 z, .int .i64 vn] 3 from hw7 ▸ Blk.new _ _ _ _ hg16.symm)
      have HL57 := Lib.hid (l6.trans l7)
      have s0 := l6.cell (HS5.out.cell 0 _ rfl)
      clear l6 l7
      go_wp2_with fail
      clear hw6 hw7 hg15 hg16 s0
      go_loopw [17] (fun iv wr => ∃ i : Nat, i ≤ 2 ∧ iv = .int .i64 i ∧ Later w7 wr) (fun i _ => 2 - (intOf i).toNat)
      case atStart => exact ⟨0, Nat.zero_le _, rfl, Later.refl _⟩
      case round =>
        obtain ⟨i, hi2, rfl, lat⟩ := hrel
        by_cases hi : i < 2
        · obtain ⟨X, xn, xc, xs, Wz, hc15, hc16, hX, hXn, hX12, hX8⟩ : ∃ (X : Option Addr) (xn xc : Nat) (xs : List SlV) (Wz : Int), w7.cell? ⟨g15, i, none⟩ = some (.slice X xn xc) ∧ w7.cell? ⟨g16, i, none⟩ = some (.int .i64 Wz) ∧ RowsAt w7 X xs ∧ xn = xs.length ∧ xn ≤ 12 ∧ ∀ s ∈ xs, s.l.length ≤ 8 := by
            rcases Nat.eq_zero_or_pos i with h | h
            · subst h
              exact ⟨A, n, c, ss, z, HB15.out.cell 0 _ rfl, HB16.out.cell 0 _ rfl, HAA.out.later HL57.out, HNS.out, hn, HLA.out⟩
            · obtain rfl : i = 1 := by omega
              exact ⟨Lr, 12, lc, rs', vn, HB15.out.cell 1 _ rfl, HB16.out.cell 1 _ rfl, HRA.out.1.later HL57.out, HSS.out.symm, Nat.le_refl _, fun s hs => by rw [HLEN.out s hs]; omega⟩
          have HC15 := Lib.hid hc15
          have HC16 := Lib.hid hc16
          have HX := Lib.hid hX
          have HXN := Lib.hid hXn
          have HX8 := Lib.hid hX8
          clear hc15 hc16 hX hXn hX8
          have ckX := lat.cell HC15.out
          have ckW := lat.cell HC16.out
          go_wp2_with fail
          have LAT := Lib.hid lat
          clear lat
          refine wp_region_K (S := fun W : World => W.cell? ⟨g15, i, none⟩ = some (.slice X xn xc) ∧ W.cell? ⟨g16, i, none⟩ = some (.int .i64 Wz)) (R := fun a b => a = b) (fun _ => rfl) (by kernel_rfl) ?_
          obtain ⟨wda, hwd⟩ : ∃ x, wr.drew = x := ⟨_, rfl⟩
          have ld : Later wr wda := hwd ▸ (Later.refl wr).drew
          have hS : (fun W : World => W.cell? ⟨g15, i, none⟩ = some (.slice X xn xc) ∧ W.cell? ⟨g16, i, none⟩ = some (.int .i64 Wz)) wda := ⟨ld.cell ckX, ld.cell ckW⟩
          rw [hwd]
          have LD := Lib.hid (LAT.out.trans ld)
          clear hwd ld ckX ckW
          refine wpAnyK_take (fun _ => rfl) (fun _ _ _ h k => h.trans k) (fun _ _ h k => k ▸ h) (i := 0) (oi := { dst := some 80, op := _, type := _, pos := _, after := _, guard := _ }) (v := ?_) rfl (by kernel_rfl) (by kernel_rfl) (by kernel_rfl) (fun _ _ _ h => h) (Or.inl (Or.inl ⟨by rfl, ?_⟩)) hS ?_
          rotate_left
          focus ((intro w hSw; (try dsimp only at hSw); obtain ⟨d0, d1⟩ := hSw; go_simp); (try with_reducible rfl))
          intro wq' hwq
          subst hwq
          (try simp only [Act.put, List.setIfInBounds_toArray, List.set_cons_zero, List.set_cons_succ])
          refine wpAnyK_take (fun _ => rfl) (fun _ _ _ h k => h.trans k) (fun _ _ h k => k ▸ h) (i := 1) (oi := { dst := some 81, op := _, type := _, pos := _, after := _, guard := _ }) (v := ?_) rfl (by kernel_rfl) (by kernel_rfl) (by kernel_rfl) (fun _ _ _ h => h) (Or.inl (Or.inl ⟨by rfl, ?_⟩)) hS ?_
          rotate_left
          focus ((intro w hSw; (try dsimp only at hSw); obtain ⟨d0, d1⟩ := hSw; go_simp); (try with_reducible rfl))
          intro wq' hwq
          subst hwq
          (try simp only [Act.put, List.setIfInBounds_toArray, List.set_cons_zero, List.set_cons_succ])
          refine wpAnyK_take (fun _ => rfl) (fun _ _ _ h k => h.trans k) (fun _ _ h k => k ▸ h) (i := 2) (oi := { dst := some 82, op := _, type := _, pos := _, after := _, guard := _ }) (v := ?_) rfl (by kernel_rfl) (by kernel_rfl) (by kernel_rfl) (fun _ _ _ h => h) (Or.inl (Or.inl ⟨by rfl, ?_⟩)) hS ?_
          rotate_left
          focus ((intro w hSw; (try dsimp only at hSw); obtain ⟨d0, d1⟩ := hSw; go_simp); (try with_reducible rfl))
          intro wq' hwq
          subst hwq
          (try simp only [Act.put, List.setIfInBounds_toArray, List.set_cons_zero, List.set_cons_succ])
          refine wpAnyK_take (fun _ => rfl) (fun _ _ _ h k => h.trans k) (fun _ _ h k => k ▸ h) (i := 3) (oi := { dst := some 83, op := _, type := _, pos := _, after := _, guard := _ }) (v := ?_) rfl (by kernel_rfl) (by kernel_rfl) (by kernel_rfl) (fun _ _ _ h => h) (Or.inl (Or.inl ⟨by rfl, ?_⟩)) hS ?_
          rotate_left
          focus ((intro w hSw; (try dsimp only at hSw); obtain ⟨d0, d1⟩ := hSw; go_simp); (try with_reducible rfl))
          intro wq' hwq
          subst hwq
          (try simp only [Act.put, List.setIfInBounds_toArray, List.set_cons_zero, List.set_cons_succ])
          refine wpAnyK_take (fun _ => rfl) (fun _ _ _ h k => h.trans k) (fun _ _ h k => k ▸ h) (i := 4) (oi := { dst := some 84, op := _, type := _, pos := _, after := _, guard := _ }) (v := ?_) rfl (by kernel_rfl) (by kernel_rfl) (by kernel_rfl) (fun _ _ _ h => h) (Or.inl (Or.inl ⟨by rfl, ?_⟩)) hS ?_
          rotate_left
          focus ((intro w hSw; (try dsimp only at hSw); obtain ⟨d0, d1⟩ := hSw; go_simp); (try with_reducible rfl))
          intro wq' hwq
          subst hwq
          (try simp only [Act.put, List.setIfInBounds_toArray, List.set_cons_zero, List.set_cons_succ])
          refine wpAnyK_take (fun _ => rfl) (fun _ _ _ h k => h.trans k) (fun _ _ h k => k ▸ h) (i := 5) (oi := { dst := some 85, op := _, type := _, pos := _, after := _, guard := _ }) (v := ?_) rfl (by kernel_rfl) (by kernel_rfl) (by kernel_rfl) (fun _ _ _ h => h) (Or.inl (Or.inl ⟨by rfl, ?_⟩)) hS ?_
          rotate_left
          focus ((intro w hSw; (try dsimp only at hSw); obtain ⟨d0, d1⟩ := hSw; go_simp); (try with_reducible rfl))
          intro wq' hwq
          subst hwq
          (try simp only [Act.put, List.setIfInBounds_toArray, List.set_cons_zero, List.set_cons_succ])
          refine wpAnyK_take (fun _ => rfl) (fun _ _ _ h k => h.trans k) (fun _ _ h k => k ▸ h) (i := 6) (oi := { dst := some 86, op := _, type := _, pos := _, after := _, guard := _ }) (v := ?_) rfl (by kernel_rfl) (by kernel_rfl) (by kernel_rfl) (fun _ _ _ h => h) (Or.inl (Or.inl ⟨by rfl, ?_⟩)) hS ?_
          rotate_left
          focus ((intro w hSw; (try dsimp only at hSw); obtain ⟨d0, d1⟩ := hSw; go_simp); (try with_reducible rfl))
          intro wq' hwq
          subst hwq
          (try simp only [Act.put, List.setIfInBounds_toArray, List.set_cons_zero, List.set_cons_succ])
          refine wpAnyK_take (fun _ => rfl) (fun _ _ _ h k => h.trans k) (fun _ _ h k => k ▸ h) (i := 7) (oi := { dst := some 87, op := _, type := _, pos := _, after := _, guard := _ }) (v := ?_) rfl (by kernel_rfl) (by kernel_rfl) (by kernel_rfl) (fun _ _ _ h => h) (Or.inl (Or.inl ⟨by rfl, ?_⟩)) hS ?_
          rotate_left
          focus ((intro w hSw; (try dsimp only at hSw); obtain ⟨d0, d1⟩ := hSw; go_simp); (try with_reducible rfl))
          intro wq' hwq
          subst hwq
          (try simp only [Act.put, List.setIfInBounds_toArray, List.set_cons_zero, List.set_cons_succ])
          refine wpAnyK_all (rs := [8]) (by kernel_rfl) (by simp) (fun i hi => ?_)
          simp only [List.mem_cons, List.not_mem_nil, or_false] at hi
          subst hi
          refine stepK (o := { dst := some 88, op := _, type := _, pos := _, after := _, guard := _ }) rfl (fun K hK => ?_)
          go_simp
          refine (columns_any X xn xc xs Wz wda ((HSS0.out.later HL5.out).later (HL57.out.trans LD.out)) HXN.out (by omega) (HX.out.later LD.out)).mono ?_
          intro ea wa ha
          obtain ⟨Xa, ca, zsa, oka, rfl, ra, ia, ma, na, la, lta⟩ := ha.lot (by rw [List.length_map, ← HXN.out]; exact hX12)
          have ckX := lta.cell hS.1
          have ckW := lta.cell hS.2
          replace hS := (show _ ∧ _ from ⟨ckX, ckW⟩)
          refine hK _ _ hS fun wq' hwq => ?_
          subst hwq
          have HRa := Lib.hid ra
          have HIa := Lib.hid ia
          have HMa := Lib.hid ma
          have HLLa := Lib.hid la
          have LAT := Lib.hid (LD.out.trans lta)
          clear hK ha ra ia ma la lta
          (try simp only [Act.put, List.setIfInBounds_toArray, List.set_cons_zero, List.set_cons_succ])
          refine wpAnyK_take (fun _ => rfl) (fun _ _ _ h k => h.trans k) (fun _ _ h k => k ▸ h) (i := 9) (oi := { dst := some 79, op := _, type := _, pos := _, after := _, guard := _ }) (v := ?_) rfl (by kernel_rfl) (by kernel_rfl) (by kernel_rfl) (fun _ _ _ h => h) (Or.inl (Or.inl ⟨by rfl, ?_⟩)) hS ?_
          rotate_left
          focus ((intro w hSw; (try dsimp only at hSw); obtain ⟨d0, d1⟩ := hSw; go_simp); (try with_reducible rfl))
          intro wq' hwq
          subst hwq
          (try simp only [Act.put, List.setIfInBounds_toArray, List.set_cons_zero, List.set_cons_succ])
          refine wpAnyK_take (fun _ => rfl) (fun _ _ _ h k => h.trans k) (fun _ _ h k => k ▸ h) (i := 10) (oi := { dst := some 89, op := _, type := _, pos := _, after := _, guard := _ }) (v := ?_) rfl (by kernel_rfl) (by kernel_rfl) (by kernel_rfl) (fun _ _ _ h => h) (Or.inl (Or.inl ⟨by rfl, ?_⟩)) hS ?_
          rotate_left
          focus ((intro w hSw; (try dsimp only at hSw); obtain ⟨d0, d1⟩ := hSw; go_simp); (try with_reducible rfl))
          intro wq' hwq
          subst hwq
          (try simp only [Act.put, List.setIfInBounds_toArray, List.set_cons_zero, List.set_cons_succ])
          refine wpAnyK_take (fun _ => rfl) (fun _ _ _ h k => h.trans k) (fun _ _ h k => k ▸ h) (i := 11) (oi := { dst := some 90, op := _, type := _, pos := _, after := _, guard := _ }) (v := ?_) rfl (by kernel_rfl) (by kernel_rfl) (by kernel_rfl) (fun _ _ _ h => h) (Or.inl (Or.inl ⟨by rfl, ?_⟩)) hS ?_
          rotate_left
          focus ((intro w hSw; (try dsimp only at hSw); obtain ⟨d0, d1⟩ := hSw; go_simp); (try with_reducible rfl))
          intro wq' hwq
          subst hwq
          (try simp only [Act.put, List.setIfInBounds_toArray, List.set_cons_zero, List.set_cons_succ])
          refine wpAnyK_take (fun _ => rfl) (fun _ _ _ h k => h.trans k) (fun _ _ h k => k ▸ h) (i := 12) (oi := { dst := some 18, op := _, type := _, pos := _, after := _, guard := _ }) (v := ?_) rfl (by kernel_rfl) (by kernel_rfl) (by kernel_rfl) (fun _ _ _ h => h) (Or.inl (Or.inl ⟨by rfl, ?_⟩)) hS ?_
          rotate_left
          focus ((intro w hSw; (try dsimp only at hSw); obtain ⟨d0, d1⟩ := hSw; go_simp); (try with_reducible rfl))
          intro wq' hwq
          subst hwq
          (try simp only [Act.put, List.setIfInBounds_toArray, List.set_cons_zero, List.set_cons_succ])
          refine wpAnyK_take (fun _ => rfl) (fun _ _ _ h k => h.trans k) (fun _ _ h k => k ▸ h) (i := 13) (oi := { dst := some 19, op := _, type := _, pos := _, after := _, guard := _ }) (v := ?_) rfl (by kernel_rfl) (by kernel_rfl) (by kernel_rfl) (fun _ _ _ h => h) (Or.inl (Or.inl ⟨by rfl, ?_⟩)) hS ?_
          rotate_left
          focus ((intro w hSw; (try dsimp only at hSw); obtain ⟨d0, d1⟩ := hSw; go_simp); (try with_reducible rfl))
          intro wq' hwq
          subst hwq
          (try simp only [Act.put, List.setIfInBounds_toArray, List.set_cons_zero, List.set_cons_succ])
          refine wpAnyK_done (by kernel_rfl) ?_ _
          clear hS
          go_wp2_with fail
          refine wp_region_K (S := fun W : World => W.cell? ⟨g15, i, none⟩ = some (.slice X xn xc) ∧ W.cell? ⟨g16, i, none⟩ = some (.int .i64 Wz)) (R := fun a b => a = b) (fun _ => rfl) (by kernel_rfl) ?_
          obtain ⟨wdb, hwd⟩ : ∃ x, wa.drew = x := ⟨_, rfl⟩
          have ld : Later wa wdb := hwd ▸ (Later.refl wa).drew
          have hS : (fun W : World => W.cell? ⟨g15, i, none⟩ = some (.slice X xn xc) ∧ W.cell? ⟨g16, i, none⟩ = some (.int .i64 Wz)) wdb := ⟨ld.cell ckX, ld.cell ckW⟩
          rw [hwd]
          have LD := Lib.hid (LAT.out.trans ld)
          have hLDb : Later wa wdb := ld
          clear hwd ld ckX ckW
          refine wpAnyK_take (fun _ => rfl) (fun _ _ _ h k => h.trans k) (fun _ _ h k => k ▸ h) (i := 0) (oi := { dst := some 92, op := _, type := _, pos := _, after := _, guard := _ }) (v := ?_) rfl (by kernel_rfl) (by kernel_rfl) (by kernel_rfl) (fun _ _ _ h => h) (Or.inl (Or.inl ⟨by rfl, ?_⟩)) hS ?_
          rotate_left
          focus ((intro w hSw; (try dsimp only at hSw); obtain ⟨d0, d1⟩ := hSw; go_simp); (try with_reducible rfl))
          intro wq' hwq
          subst hwq
          (try simp only [Act.put, List.setIfInBounds_toArray, List.set_cons_zero, List.set_cons_succ])
          refine wpAnyK_take (fun _ => rfl) (fun _ _ _ h k => h.trans k) (fun _ _ h k => k ▸ h) (i := 1) (oi := { dst := some 93, op := _, type := _, pos := _, after := _, guard := _ }) (v := ?_) rfl (by kernel_rfl) (by kernel_rfl) (by kernel_rfl) (fun _ _ _ h => h) (Or.inl (Or.inl ⟨by rfl, ?_⟩)) hS ?_
          rotate_left
          focus ((intro w hSw; (try dsimp only at hSw); obtain ⟨d0, d1⟩ := hSw; go_simp); (try with_reducible rfl))
          intro wq' hwq
          subst hwq
          (try simp only [Act.put, List.setIfInBounds_toArray, List.set_cons_zero, List.set_cons_succ])
          refine wpAnyK_take (fun _ => rfl) (fun _ _ _ h k => h.trans k) (fun _ _ h k => k ▸ h) (i := 2) (oi := { dst := some 94, op := _, type := _, pos := _, after := _, guard := _ }) (v := ?_) rfl (by kernel_rfl) (by kernel_rfl) (by kernel_rfl) (fun _ _ _ h => h) (Or.inl (Or.inl ⟨by rfl, ?_⟩)) hS ?_
          rotate_left
          focus ((intro w hSw; (try dsimp only at hSw); obtain ⟨d0, d1⟩ := hSw; go_simp); (try with_reducible rfl))
          intro wq' hwq
          subst hwq
          (try simp only [Act.put, List.setIfInBounds_toArray, List.set_cons_zero, List.set_cons_succ])
          refine wpAnyK_take (fun _ => rfl) (fun _ _ _ h k => h.trans k) (fun _ _ h k => k ▸ h) (i := 3) (oi := { dst := some 95, op := _, type := _, pos := _, after := _, guard := _ }) (v := ?_) rfl (by kernel_rfl) (by kernel_rfl) (by kernel_rfl) (fun _ _ _ h => h) (Or.inl (Or.inl ⟨by rfl, ?_⟩)) hS ?_
          rotate_left
          focus ((intro w hSw; (try dsimp only at hSw); obtain ⟨d0, d1⟩ := hSw; go_simp); (try with_reducible rfl))
          intro wq' hwq
          subst hwq
          (try simp only [Act.put, List.setIfInBounds_toArray, List.set_cons_zero, List.set_cons_succ])
          refine wpAnyK_take (fun _ => rfl) (fun _ _ _ h k => h.trans k) (fun _ _ h k => k ▸ h) (i := 4) (oi := { dst := some 96, op := _, type := _, pos := _, after := _, guard := _ }) (v := ?_) rfl (by kernel_rfl) (by kernel_rfl) (by kernel_rfl) (fun _ _ _ h => h) (Or.inl (Or.inl ⟨by rfl, ?_⟩)) hS ?_
          rotate_left
          focus ((intro w hSw; (try dsimp only at hSw); obtain ⟨d0, d1⟩ := hSw; go_simp); (try with_reducible rfl))
          intro wq' hwq
          subst hwq
          (try simp only [Act.put, List.setIfInBounds_toArray, List.set_cons_zero, List.set_cons_succ])
          refine wpAnyK_take (fun _ => rfl) (fun _ _ _ h k => h.trans k) (fun _ _ h k => k ▸ h) (i := 5) (oi := { dst := some 97, op := _, type := _, pos := _, after := _, guard := _ }) (v := ?_) rfl (by kernel_rfl) (by kernel_rfl) (by kernel_rfl) (fun _ _ _ h => h) (Or.inl (Or.inl ⟨by rfl, ?_⟩)) hS ?_
          rotate_left
          focus ((intro w hSw; (try dsimp only at hSw); obtain ⟨d0, d1⟩ := hSw; go_simp); (try with_reducible rfl))
          intro wq' hwq
          subst hwq
          (try simp only [Act.put, List.setIfInBounds_toArray, List.set_cons_zero, List.set_cons_succ])
          refine wpAnyK_take (fun _ => rfl) (fun _ _ _ h k => h.trans k) (fun _ _ h k => k ▸ h) (i := 6) (oi := { dst := some 98, op := _, type := _, pos := _, after := _, guard := _ }) (v := ?_) rfl (by kernel_rfl) (by kernel_rfl) (by kernel_rfl) (fun _ _ _ h => h) (Or.inl (Or.inl ⟨by rfl, ?_⟩)) hS ?_
          rotate_left
          focus ((intro w hSw; (try dsimp only at hSw); obtain ⟨d0, d1⟩ := hSw; go_simp); (try with_reducible rfl))
          intro wq' hwq
          subst hwq
          (try simp only [Act.put, List.setIfInBounds_toArray, List.set_cons_zero, List.set_cons_succ])
          refine wpAnyK_take (fun _ => rfl) (fun _ _ _ h k => h.trans k) (fun _ _ h k => k ▸ h) (i := 7) (oi := { dst := some 99, op := _, type := _, pos := _, after := _, guard := _ }) (v := ?_) rfl (by kernel_rfl) (by kernel_rfl) (by kernel_rfl) (fun _ _ _ h => h) (Or.inl (Or.inl ⟨by rfl, ?_⟩)) hS ?_
          rotate_left
          focus ((intro w hSw; (try dsimp only at hSw); obtain ⟨d0, d1⟩ := hSw; go_simp); (try with_reducible rfl))
          intro wq' hwq
          subst hwq
          (try simp only [Act.put, List.setIfInBounds_toArray, List.set_cons_zero, List.set_cons_succ])
          refine wpAnyK_all (rs := [8]) (by kernel_rfl) (by simp) (fun i hi => ?_)
          simp only [List.mem_cons, List.not_mem_nil, or_false] at hi
          subst hi
          refine stepK (o := { dst := some 100, op := _, type := _, pos := _, after := _, guard := _ }) rfl (fun K hK => ?_)
          go_simp
          refine (refColumns_any X xn xc xs Wz wdb HXN.out (by omega) (HX.out.later LD.out) (fun s hs => by have := HX8.out s hs; omega)).mono ?_
          intro eb wb hb
          obtain ⟨Xb, cb, zsb, okb, rfl, rb, ib, mb, nb, lb, ltb⟩ := hb.lot (by rw [List.length_map, ← HXN.out]; exact hX12)
          have ckX := ltb.cell hS.1
          have ckW := ltb.cell hS.2
          replace hS := (show _ ∧ _ from ⟨ckX, ckW⟩)
          refine hK _ _ hS fun wq' hwq => ?_
          subst hwq
          have HRb := Lib.hid rb
          have HIb := Lib.hid ib
          have HMb := Lib.hid mb
          have HLLb := Lib.hid lb
          have LAT := Lib.hid (LD.out.trans ltb)
          have HRa := Lib.hid (HRa.out.later (hLDb.trans ltb))
          clear hK hb rb ib mb lb ltb
          (try simp only [Act.put, List.setIfInBounds_toArray, List.set_cons_zero, List.set_cons_succ])
          refine wpAnyK_take (fun _ => rfl) (fun _ _ _ h k => h.trans k) (fun _ _ h k => k ▸ h) (i := 9) (oi := { dst := some 91, op := _, type := _, pos := _, after := _, guard := _ }) (v := ?_) rfl (by kernel_rfl) (by kernel_rfl) (by kernel_rfl) (fun _ _ _ h => h) (Or.inl (Or.inl ⟨by rfl, ?_⟩)) hS ?_
          rotate_left
          focus ((intro w hSw; (try dsimp only at hSw); obtain ⟨d0, d1⟩ := hSw; go_simp); (try with_reducible rfl))
          intro wq' hwq
          subst hwq
          (try simp only [Act.put, List.setIfInBounds_toArray, List.set_cons_zero, List.set_cons_succ])
          refine wpAnyK_take (fun _ => rfl) (fun _ _ _ h k => h.trans k) (fun _ _ h k => k ▸ h) (i := 10) (oi := { dst := some 101, op := _, type := _, pos := _, after := _, guard := _ }) (v := ?_) rfl (by kernel_rfl) (by kernel_rfl) (by kernel_rfl) (fun _ _ _ h => h) (Or.inl (Or.inl ⟨by rfl, ?_⟩)) hS ?_
          rotate_left
          focus ((intro w hSw; (try dsimp only at hSw); obtain ⟨d0, d1⟩ := hSw; go_simp); (try with_reducible rfl))
          intro wq' hwq
          subst hwq
          (try simp only [Act.put, List.setIfInBounds_toArray, List.set_cons_zero, List.set_cons_succ])
          refine wpAnyK_take (fun _ => rfl) (fun _ _ _ h k => h.trans k) (fun _ _ h k => k ▸ h) (i := 11) (oi := { dst := some 102, op := _, type := _, pos := _, after := _, guard := _ }) (v := ?_) rfl (by kernel_rfl) (by kernel_rfl) (by kernel_rfl) (fun _ _ _ h => h) (Or.inl (Or.inl ⟨by rfl, ?_⟩)) hS ?_
          rotate_left
          focus ((intro w hSw; (try dsimp only at hSw); obtain ⟨d0, d1⟩ := hSw; go_simp); (try with_reducible rfl))
          intro wq' hwq
          subst hwq
          (try simp only [Act.put, List.setIfInBounds_toArray, List.set_cons_zero, List.set_cons_succ])
          refine wpAnyK_take (fun _ => rfl) (fun _ _ _ h k => h.trans k) (fun _ _ h k => k ▸ h) (i := 12) (oi := { dst := some 20, op := _, type := _, pos := _, after := _, guard := _ }) (v := ?_) rfl (by kernel_rfl) (by kernel_rfl) (by kernel_rfl) (fun _ _ _ h => h) (Or.inl (Or.inl ⟨by rfl, ?_⟩)) hS ?_
          rotate_left
          focus ((intro w hSw; (try dsimp only at hSw); obtain ⟨d0, d1⟩ := hSw; go_simp); (try with_reducible rfl))
          intro wq' hwq
          subst hwq
          (try simp only [Act.put, List.setIfInBounds_toArray, List.set_cons_zero, List.set_cons_succ])
          refine wpAnyK_take (fun _ => rfl) (fun _ _ _ h k => h.trans k) (fun _ _ h k => k ▸ h) (i := 13) (oi := { dst := some 21, op := _, type := _, pos := _, after := _, guard := _ }) (v := ?_) rfl (by kernel_rfl) (by kernel_rfl) (by kernel_rfl) (fun _ _ _ h => h) (Or.inl (Or.inl ⟨by rfl, ?_⟩)) hS ?_
          rotate_left
          focus ((intro w hSw; (try dsimp only at hSw); obtain ⟨d0, d1⟩ := hSw; go_simp); (try with_reducible rfl))
          intro wq' hwq
          subst hwq
          (try simp only [Act.put, List.setIfInBounds_toArray, List.set_cons_zero, List.set_cons_succ])
          refine wpAnyK_done (by kernel_rfl) ?_ _
          clear hS
          have hok : oka = okb := by
            have h1 := HIa.out
            have h2 := HIb.out
            cases oka <;> cases okb <;> simp_all
          have hnn : zsa.length = zsb.length := by
            have := congrArg List.length (HMa.out.trans HMb.out.symm)
            simpa using this
          subst hok
          obtain ⟨yn, hyn⟩ : ∃ x, zsb.length = x := ⟨_, rfl⟩
          rw [hyn] at hnn nb
          rw [hyn, hnn]
          rw [hnn] at na
          have HYB := Lib.hid hyn
          have HYA := Lib.hid hnn
          clear hyn hnn hLDb
          have HEAB := Lib.hid (HMa.out.trans HMb.out.symm)
          go_wp2_with fail
          go_loopw [22] (fun iv wr => ∃ k : Nat, k ≤ yn ∧ iv = .int .i64 k ∧ Later wb wr) (fun i _ => yn - (intOf i).toNat)
          case atStart => exact ⟨0, Nat.zero_le _, rfl, Later.refl _⟩
          case round =>
            obtain ⟨k, hk, rfl, lat⟩ := hrel
            by_cases hlk : k < yn
            · have hku : k < zsa.length := by have := HYA.out; omega
              have hkv : k < zsb.length := by have := HYB.out; omega
              obtain ⟨bu, ou, hU, cku, hhu, _⟩ := (HRa.out.later lat).get k hku
              obtain ⟨bv, ov, hV, ckv, hhv, _⟩ := (HRb.out.later lat).get k hkv
              subst hU hV
              have hee : zsa[k].l = zsb[k].l := by
                have h1 : (zsa.map (·.l))[k]? = (zsb.map (·.l))[k]? := by rw [HEAB.out]
                rw [List.getElem?_map, List.getElem?_map, List.getElem?_eq_getElem hku, List.getElem?_eq_getElem hkv] at h1
                simpa using h1
              have hlu := HLLb.out _ (List.getElem_mem hkv)
              rw [hee] at cku hhu
              obtain ⟨row, hrow⟩ : ∃ x, zsb[k].l = x := ⟨_, rfl⟩
              rw [hrow] at cku ckv hhu hhv hlu
              obtain ⟨rn, hrn⟩ : ∃ x, row.length = x := ⟨_, rfl⟩
              rw [hrn] at cku ckv hlu
              have HRNN := Lib.hid hrn.symm
              have HHU := Lib.hid hhu
              have HHV := Lib.hid hhv
              generalize zsa[k].a = RU at cku HHU
              generalize zsa[k].c = cu at cku
              generalize zsb[k].a = RV at ckv HHV
              generalize zsb[k].c = cv at ckv
              clear hhu hhv hrow hrn hee
              go_wp2_with fail
              refine wp_region_K (S := fun W : World => W.cell? ⟨bu, ou + k, none⟩ = some (.slice RU rn cu) ∧ W.cell? ⟨bv, ov + k, none⟩ = some (.slice RV rn cv)) (R := fun a b => a = b) (fun _ => rfl) (by kernel_rfl) ?_
              obtain ⟨wd, hwd⟩ : ∃ x, wr.drew = x := ⟨_, rfl⟩
              have ld : Later wr wd := hwd ▸ (Later.refl wr).drew
              have hS : (fun W : World => W.cell? ⟨bu, ou + k, none⟩ = some (.slice RU rn cu) ∧ W.cell? ⟨bv, ov + k, none⟩ = some (.slice RV rn cv)) wd := ⟨ld.cell cku, ld.cell ckv⟩
              rw [hwd]
              clear hwd cku ckv
              refine wpAnyK_take (fun _ => rfl) (fun _ _ _ h k => h.trans k) (fun _ _ h k => k ▸ h) (i := 0) (oi := { dst := some 119, op := _, type := _, pos := _, after := _, guard := _ }) (v := ?_) rfl (by kernel_rfl) (by kernel_rfl) (by kernel_rfl) (fun _ _ _ h => h) (Or.inl (Or.inl ⟨by rfl, ?_⟩)) hS ?_
              rotate_left
              focus ((intro w hSw; (try dsimp only at hSw); obtain ⟨d0, d1⟩ := hSw; go_simp); (try with_reducible rfl))
              intro wq' hwq
              subst hwq
              (try simp only [Act.put, List.setIfInBounds_toArray, List.set_cons_zero, List.set_cons_succ])
              refine wpAnyK_take (fun _ => rfl) (fun _ _ _ h k => h.trans k) (fun _ _ h k => k ▸ h) (i := 1) (oi := { dst := some 120, op := _, type := _, pos := _, after := _, guard := _ }) (v := ?_) rfl (by kernel_rfl) (by kernel_rfl) (by kernel_rfl) (fun _ _ _ h => h) (Or.inl (Or.inl ⟨by rfl, ?_⟩)) hS ?_
              rotate_left
              focus ((intro w hSw; (try dsimp only at hSw); obtain ⟨d0, d1⟩ := hSw; go_simp); (try with_reducible rfl))
              intro wq' hwq
              subst hwq
              (try simp only [Act.put, List.setIfInBounds_toArray, List.set_cons_zero, List.set_cons_succ])
              refine wpAnyK_take (fun _ => rfl) (fun _ _ _ h k => h.trans k) (fun _ _ h k => k ▸ h) (i := 2) (oi := { dst := some 121, op := _, type := _, pos := _, after := _, guard := _ }) (v := ?_) rfl (by kernel_rfl) (by kernel_rfl) (by kernel_rfl) (fun _ _ _ h => h) (Or.inl (Or.inl ⟨by rfl, ?_⟩)) hS ?_
              rotate_left
              focus ((intro w hSw; (try dsimp only at hSw); obtain ⟨d0, d1⟩ := hSw; go_simp); (try with_reducible rfl))
              intro wq' hwq
              subst hwq
              (try simp only [Act.put, List.setIfInBounds_toArray, List.set_cons_zero, List.set_cons_succ])
              refine wpAnyK_take (fun _ => rfl) (fun _ _ _ h k => h.trans k) (fun _ _ h k => k ▸ h) (i := 3) (oi := { dst := some 122, op := _, type := _, pos := _, after := _, guard := _ }) (v := ?_) rfl (by kernel_rfl) (by kernel_rfl) (by kernel_rfl) (fun _ _ _ h => h) (Or.inl (Or.inl ⟨by rfl, ?_⟩)) hS ?_
              rotate_left
              focus ((intro w hSw; (try dsimp only at hSw); obtain ⟨d0, d1⟩ := hSw; go_simp); (try with_reducible rfl))
              intro wq' hwq
              subst hwq
              (try simp only [Act.put, List.setIfInBounds_toArray, List.set_cons_zero, List.set_cons_succ])
              refine wpAnyK_take (fun _ => rfl) (fun _ _ _ h k => h.trans k) (fun _ _ h k => k ▸ h) (i := 4) (oi := { dst := some 123, op := _, type := _, pos := _, after := _, guard := _ }) (v := ?_) rfl (by kernel_rfl) (by kernel_rfl) (by kernel_rfl) (fun _ _ _ h => h) (Or.inl (Or.inl ⟨by rfl, ?_⟩)) hS ?_
              rotate_left
              focus ((intro w hSw; (try dsimp only at hSw); obtain ⟨d0, d1⟩ := hSw; go_simp); (try with_reducible rfl))
              intro wq' hwq
              subst hwq
              (try simp only [Act.put, List.setIfInBounds_toArray, List.set_cons_zero, List.set_cons_succ])
              refine wpAnyK_take (fun _ => rfl) (fun _ _ _ h k => h.trans k) (fun _ _ h k => k ▸ h) (i := 5) (oi := { dst := some 124, op := _, type := _, pos := _, after := _, guard := _ }) (v := ?_) rfl (by kernel_rfl) (by kernel_rfl) (by kernel_rfl) (fun _ _ _ h => h) (Or.inl (Or.inl ⟨by rfl, ?_⟩)) hS ?_
              rotate_left
              focus ((intro w hSw; (try dsimp only at hSw); obtain ⟨d0, d1⟩ := hSw; go_simp); (try with_reducible rfl))
              intro wq' hwq
              subst hwq
              (try simp only [Act.put, List.setIfInBounds_toArray, List.set_cons_zero, List.set_cons_succ])
              refine wpAnyK_take (fun _ => rfl) (fun _ _ _ h k => h.trans k) (fun _ _ h k => k ▸ h) (i := 6) (oi := { dst := some 125, op := _, type := _, pos := _, after := _, guard := _ }) (v := ?_) rfl (by kernel_rfl) (by kernel_rfl) (by kernel_rfl) (fun _ _ _ h => h) (Or.inl (Or.inl ⟨by rfl, ?_⟩)) hS ?_
              rotate_left
              focus ((intro w hSw; (try dsimp only at hSw); obtain ⟨d0, d1⟩ := hSw; go_simp); (try with_reducible rfl))
              intro wq' hwq
              subst hwq
              (try simp only [Act.put, List.setIfInBounds_toArray, List.set_cons_zero, List.set_cons_succ])
              refine wpAnyK_take (fun _ => rfl) (fun _ _ _ h k => h.trans k) (fun _ _ h k => k ▸ h) (i := 7) (oi := { dst := some 126, op := _, type := _, pos := _, after := _, guard := _ }) (v := ?_) rfl (by kernel_rfl) (by kernel_rfl) (by kernel_rfl) (fun _ _ _ h => h) (Or.inl (Or.inl ⟨by rfl, ?_⟩)) hS ?_
              rotate_left
              focus ((intro w hSw; (try dsimp only at hSw); obtain ⟨d0, d1⟩ := hSw; go_simp); (try with_reducible rfl))
              intro wq' hwq
              subst hwq
              (try simp only [Act.put, List.setIfInBounds_toArray, List.set_cons_zero, List.set_cons_succ])
              refine wpAnyK_all (rs := [8]) (by kernel_rfl) (by simp) (fun i hi => ?_)
              simp only [List.mem_cons, List.not_mem_nil, or_false] at hi
              subst hi
              refine stepK (o := { dst := some 127, op := _, type := _, pos := _, after := _, guard := _ }) rfl (fun K hK => ?_)
              go_simp
              refine (refSameRow_any RU RV rn rn cu cv row row wd HRNN.out HRNN.out (HHU.out.later ld) (HHV.out.later ld) (by omega) (by omega)).mono ?_
              intro ez wz hz'
              obtain ⟨rfl, lz⟩ := hz'.yes rfl
              replace hS := (show _ ∧ _ from ⟨lz.cell hS.1, lz.cell hS.2⟩)
              refine hK _ _ hS fun wq' hwq => ?_
              subst hwq
              have HLZ := Lib.hid ((lat.trans ld).trans lz)
              clear hK hz' lz ld lat
              (try simp only [Act.put, List.setIfInBounds_toArray, List.set_cons_zero, List.set_cons_succ])
              refine wpAnyK_take (fun _ => rfl) (fun _ _ _ h k => h.trans k) (fun _ _ h k => k ▸ h) (i := 9) (oi := { dst := some 128, op := _, type := _, pos := _, after := _, guard := _ }) (v := ?_) rfl (by kernel_rfl) (by kernel_rfl) (by kernel_rfl) (fun _ _ _ h => h) (Or.inl (Or.inl ⟨by rfl, ?_⟩)) hS ?_
              rotate_left
              focus ((intro w hSw; (try dsimp only at hSw); obtain ⟨d0, d1⟩ := hSw; go_simp); (try with_reducible rfl))
              intro wq' hwq
              subst hwq
              (try simp only [Act.put, List.setIfInBounds_toArray, List.set_cons_zero, List.set_cons_succ])
              refine wpAnyK_done (by kernel_rfl) ?_ _
              clear hS
              go_wp2_with fail
              go_roundw
              all_goals first
                | exact ⟨k + 1, hlk, by go_num, HLZ.out⟩
                | (simp [intOf]; omega)
            · have LXc := Lib.hid lat
              clear lat
              go_wp2_with fail
              refine (pick_any Xb D yn cb r f zsb sel wr HYB.out.symm HRS2.out (by omega) (by omega) (HRb.out.later LXc.out) (fun s hs => by have := HLLb.out s hs; omega) (HDD.out.later (HL57.out.trans (LAT.out.trans LXc.out)))).mono ?_
              rintro e w20 ⟨U, uc, us, rfl, hu1, hu2, _, _, _, l20, _⟩
              have HU1 := Lib.hid hu1
              have HU2 := Lib.hid hu2
              have L20 := Lib.hid (LXc.out.trans l20)
              clear hu1 hu2 l20
              go_wp2_with fail
              refine (refPick_any Xb D yn cb r f zsb sel w20 HYB.out.symm HRS2.out (by omega) (by omega) (HRb.out.later L20.out) (fun s hs => by have := HLLb.out s hs; omega) (HDD.out.later (HL57.out.trans (LAT.out.trans L20.out)))).mono ?_
              rintro e w21 ⟨gv, vs, rfl, hv1, hv2, l21⟩
              have HV1 := Lib.hid hv1
              have HV2 := Lib.hid hv2
              have HU2 := Lib.hid (HU2.out.later l21)
              have L21 := Lib.hid (L20.out.trans l21)
              clear hv1 hv2 l21
              have hpu : us.length = yn := by
                have h := congrArg List.length HU1.out
                unfold pickC colsOf at h
                rw [List.length_map, List.length_map, List.length_map] at h
                rw [h]; exact HYB.out
              have hpv : vs.length = yn := by
                have h := congrArg List.length HV1.out
                unfold pickC colsOf at h
                rw [List.length_map, List.length_map, List.length_map] at h
                rw [h]; exact HYB.out
              rw [hpu, hpv]
              have HPU := Lib.hid hpu
              have HPV := Lib.hid hpv
              clear hpu hpv
              have HEUV := Lib.hid (HU1.out.trans HV1.out.symm)
              have hynn : ((yn : Int) != (yn : Int)) = false := by simp
              go_wp2_with fail
              have HBN := Lib.hid (rows_bnd (zs := zsb) (by rw [HYB.out]; exact nb) HLLb.out)
              have HRb1 := Lib.hid (HRb.out.later L21.out)
              have HRB6 := Lib.hid (show ∀ s ∈ zsb, s.l.length ≤ 1000 from fun s hs => by have := HLLb.out s hs; omega)
              refine (batchRows_any Xb yn cb zsb w21 HYB.out.symm (by omega) (HRb1.out) HRB6.out).mono ?_
              rintro e w22 ⟨R1, rc1, rs1, rfl, hr1, ha1, _, _, _, l1⟩
              have hn1 : rs1.length = (rowsC (colsOf zsb)).length := by rw [← hr1, List.length_map]
              have HE1 := Lib.hid hr1
              have HA1 := Lib.hid ha1
              have HL1x := Lib.hid l1
              obtain ⟨q1, hq1⟩ : ∃ x, rs1.length = x := ⟨_, rfl⟩
              rw [hq1] at hn1
              rw [hq1]
              have HQ1 := Lib.hid hq1
              have HB1 := Lib.hid (show q1 ≤ 1000 ∧ ∀ s ∈ rs1, s.l.length ≤ 1000 from ⟨by have := HBN.out.1; omega, fun s hs => by
                have := HBN.out.2 _ (by rw [← HE1.out]; exact List.mem_map.2 ⟨s, hs, rfl⟩)
                omega⟩)
              clear hr1 ha1 l1 hn1 hq1
              go_wp2_with fail
              refine (refRows_any Xb yn cb zsb w22 HYB.out.symm (by omega) (HRb1.out.later HL1x.out) HRB6.out).mono ?_
              rintro e w23 ⟨R2, rc2, rs2, rfl, hr2, ha2, _, _, _, l2⟩
              have hn2 : rs2.length = (rowsC (colsOf zsb)).length := by rw [← hr2, List.length_map]
              have HE2 := Lib.hid hr2
              have HA2 := Lib.hid ha2
              have HL2x := Lib.hid l2
              obtain ⟨q2, hq2⟩ : ∃ x, rs2.length = x := ⟨_, rfl⟩
              rw [hq2] at hn2
              rw [hq2]
              have HQ2 := Lib.hid hq2
              have HB2 := Lib.hid (show q2 ≤ 1000 ∧ ∀ s ∈ rs2, s.l.length ≤ 1000 from ⟨by have := HBN.out.1; omega, fun s hs => by
                have := HBN.out.2 _ (by rw [← HE2.out]; exact List.mem_map.2 ⟨s, hs, rfl⟩)
                omega⟩)
              clear hr2 ha2 l2 hn2 hq2
              go_wp2_with fail
              refine (sameRows_any R1 R2 q1 q2 rc1 rc2 rs1 rs2 w23 HQ1.out.symm HQ2.out.symm HB1.out.1 HB2.out.1 (HA1.out.later HL2x.out) HA2.out HB1.out.2 HB2.out.2).mono ?_
              intro e w24 hz'
              obtain ⟨rfl, l24⟩ := hz'.yes (HE1.out.trans HE2.out.symm)
              have L24 := Lib.hid ((HL1x.out.trans HL2x.out).trans l24)
              clear hz' l24
              go_wp2_with fail
              refine (batchRows_any Xb yn cb zsb w24 HYB.out.symm (by omega) (HRb1.out.later L24.out) HRB6.out).mono ?_
              rintro e w25 ⟨R3, rc3, rs3, rfl, hr3, ha3, _, _, _, l3⟩
              have hn3 : rs3.length = (rowsC (colsOf zsb)).length := by rw [← hr3, List.length_map]
              have HE3 := Lib.hid hr3
              have HA3 := Lib.hid ha3
              have HL3x := Lib.hid l3
              obtain ⟨q3, hq3⟩ : ∃ x, rs3.length = x := ⟨_, rfl⟩
              rw [hq3] at hn3
              rw [hq3]
              have HQ3 := Lib.hid hq3
              have HB3 := Lib.hid (show q3 ≤ 1000 ∧ ∀ s ∈ rs3, s.l.length ≤ 1000 from ⟨by have := HBN.out.1; omega, fun s hs => by
                have := HBN.out.2 _ (by rw [← HE3.out]; exact List.mem_map.2 ⟨s, hs, rfl⟩)
                omega⟩)
              clear hr3 ha3 l3 hn3 hq3
              go_wp2_with fail
              refine (refRows_any Xb yn cb zsb w25 HYB.out.symm (by omega) (HRb1.out.later (L24.out.trans HL3x.out)) HRB6.out).mono ?_
              rintro e w26 ⟨R4, rc4, rs4, rfl, hr4, ha4, _, _, _, l4⟩
              have hn4 : rs4.length = (rowsC (colsOf zsb)).length := by rw [← hr4, List.length_map]
              have HE4 := Lib.hid hr4
              have HA4 := Lib.hid ha4
              have HL4x := Lib.hid l4
              obtain ⟨q4, hq4⟩ : ∃ x, rs4.length = x := ⟨_, rfl⟩
              rw [hq4] at hn4
              rw [hq4]
              have HQ4 := Lib.hid hq4
              have HB4 := Lib.hid (show q4 ≤ 1000 ∧ ∀ s ∈ rs4, s.l.length ≤ 1000 from ⟨by have := HBN.out.1; omega, fun s hs => by
                have := HBN.out.2 _ (by rw [← HE4.out]; exact List.mem_map.2 ⟨s, hs, rfl⟩)
                omega⟩)
              clear hr4 ha4 l4 hn4 hq4
              go_wp2_with fail
              refine (refSameRows_any R3 R4 q3 q4 rc3 rc4 rs3 rs4 w26 HQ3.out.symm HQ4.out.symm HB3.out.1 HB4.out.1 (HA3.out.later HL4x.out) HA4.out HB3.out.2 HB4.out.2).mono ?_
              intro e w29 hz'
              obtain ⟨rfl, l29⟩ := hz'.yes (HE3.out.trans HE4.out.symm)
              have L29 := Lib.hid (L24.out.trans ((HL3x.out.trans HL4x.out).trans l29))
              clear hz' l29
              have HU9 := Lib.hid (HU2.out.later L29.out)
              have HV9 := Lib.hid (HV2.out.later L29.out)
              have HLV := Lib.hid (show ∀ s ∈ vs, s.l.length ≤ 20 from fun s hs => by
                have h1 : s.l ∈ pickC (colsOf zsb) sel := by rw [← HV1.out]; exact List.mem_map.2 ⟨s, hs, rfl⟩
                obtain ⟨c0, _, hc0⟩ := List.mem_map.1 h1
                rw [← hc0]
                have := pick1_len c0 sel
                have := HRS2.out
                omega)
              go_wp2_with fail
              go_loopw [25] (fun iv wr => ∃ k : Nat, k ≤ yn ∧ iv = .int .i64 k ∧ Later w29 wr) (fun i _ => yn - (intOf i).toNat)
              case atStart => exact ⟨0, Nat.zero_le _, rfl, Later.refl _⟩
              case round =>
                obtain ⟨k, hk, rfl, lat⟩ := hrel
                by_cases hlk : k < yn
                · have hku : k < us.length := by have := HPU.out; omega
                  have hkv : k < vs.length := by have := HPV.out; omega
                  obtain ⟨bu, ou, hU, cku, hhu, _⟩ := (HU9.out.later lat).get k hku
                  obtain ⟨bv, ov, hV, ckv, hhv, _⟩ := (HV9.out.later lat).get k hkv
                  subst hU
                  injection hV with hV
                  injection hV with hV1 hV2
                  subst hV1 hV2; rw [Nat.zero_add] at ckv
                  have hee : us[k].l = vs[k].l := by
                    have h1 : (us.map (·.l))[k]? = (vs.map (·.l))[k]? := by rw [HEUV.out]
                    rw [List.getElem?_map, List.getElem?_map, List.getElem?_eq_getElem hku, List.getElem?_eq_getElem hkv] at h1
                    simpa using h1
                  have hlu := HLV.out _ (List.getElem_mem hkv)
                  rw [hee] at cku hhu
                  obtain ⟨row, hrow⟩ : ∃ x, vs[k].l = x := ⟨_, rfl⟩
                  rw [hrow] at cku ckv hhu hhv hlu
                  obtain ⟨rn, hrn⟩ : ∃ x, row.length = x := ⟨_, rfl⟩
                  rw [hrn] at cku ckv hlu
                  have HRNN := Lib.hid hrn.symm
                  have HHU := Lib.hid hhu
                  have HHV := Lib.hid hhv
                  generalize us[k].a = RU at cku HHU
                  generalize us[k].c = cu at cku
                  generalize vs[k].a = RV at ckv HHV
                  generalize vs[k].c = cv at ckv
                  clear hhu hhv hrow hrn hee
                  go_wp2_with fail
                  refine wp_region_K (S := fun W : World => W.cell? ⟨bu, ou + k, none⟩ = some (.slice RU rn cu) ∧ W.cell? ⟨gv, k, none⟩ = some (.slice RV rn cv)) (R := fun a b => a = b) (fun _ => rfl) (by kernel_rfl) ?_
                  obtain ⟨wd, hwd⟩ : ∃ x, wr.drew = x := ⟨_, rfl⟩
                  have ld : Later wr wd := hwd ▸ (Later.refl wr).drew
                  have hS : (fun W : World => W.cell? ⟨bu, ou + k, none⟩ = some (.slice RU rn cu) ∧ W.cell? ⟨gv, k, none⟩ = some (.slice RV rn cv)) wd := ⟨ld.cell cku, ld.cell ckv⟩
                  rw [hwd]
                  clear hwd cku ckv
                  refine wpAnyK_take (fun _ => rfl) (fun _ _ _ h k => h.trans k) (fun _ _ h k => k ▸ h) (i := 0) (oi := { dst := some 162, op := _, type := _, pos := _, after := _, guard := _ }) (v := ?_) rfl (by kernel_rfl) (by kernel_rfl) (by kernel_rfl) (fun _ _ _ h => h) (Or.inl (Or.inl ⟨by rfl, ?_⟩)) hS ?_
                  rotate_left
                  focus ((intro w hSw; (try dsimp only at hSw); obtain ⟨d0, d1⟩ := hSw; go_simp); (try with_reducible rfl))
                  intro wq' hwq
                  subst hwq
                  (try simp only [Act.put, List.setIfInBounds_toArray, List.set_cons_zero, List.set_cons_succ])
                  refine wpAnyK_take (fun _ => rfl) (fun _ _ _ h k => h.trans k) (fun _ _ h k => k ▸ h) (i := 1) (oi := { dst := some 163, op := _, type := _, pos := _, after := _, guard := _ }) (v := ?_) rfl (by kernel_rfl) (by kernel_rfl) (by kernel_rfl) (fun _ _ _ h => h) (Or.inl (Or.inl ⟨by rfl, ?_⟩)) hS ?_
                  rotate_left
                  focus ((intro w hSw; (try dsimp only at hSw); obtain ⟨d0, d1⟩ := hSw; go_simp); (try with_reducible rfl))
                  intro wq' hwq
                  subst hwq
                  (try simp only [Act.put, List.setIfInBounds_toArray, List.set_cons_zero, List.set_cons_succ])
                  refine wpAnyK_take (fun _ => rfl) (fun _ _ _ h k => h.trans k) (fun _ _ h k => k ▸ h) (i := 2) (oi := { dst := some 164, op := _, type := _, pos := _, after := _, guard := _ }) (v := ?_) rfl (by kernel_rfl) (by kernel_rfl) (by kernel_rfl) (fun _ _ _ h => h) (Or.inl (Or.inl ⟨by rfl, ?_⟩)) hS ?_
                  rotate_left
                  focus ((intro w hSw; (try dsimp only at hSw); obtain ⟨d0, d1⟩ := hSw; go_simp); (try with_reducible rfl))
                  intro wq' hwq
                  subst hwq
                  (try simp only [Act.put, List.setIfInBounds_toArray, List.set_cons_zero, List.set_cons_succ])
                  refine wpAnyK_take (fun _ => rfl) (fun _ _ _ h k => h.trans k) (fun _ _ h k => k ▸ h) (i := 3) (oi := { dst := some 165, op := _, type := _, pos := _, after := _, guard := _ }) (v := ?_) rfl (by kernel_rfl) (by kernel_rfl) (by kernel_rfl) (fun _ _ _ h => h) (Or.inl (Or.inl ⟨by rfl, ?_⟩)) hS ?_
                  rotate_left
                  focus ((intro w hSw; (try dsimp only at hSw); obtain ⟨d0, d1⟩ := hSw; go_simp); (try with_reducible rfl))
                  intro wq' hwq
                  subst hwq
                  (try simp only [Act.put, List.setIfInBounds_toArray, List.set_cons_zero, List.set_cons_succ])
                  refine wpAnyK_take (fun _ => rfl) (fun _ _ _ h k => h.trans k) (fun _ _ h k => k ▸ h) (i := 4) (oi := { dst := some 166, op := _, type := _, pos := _, after := _, guard := _ }) (v := ?_) rfl (by kernel_rfl) (by kernel_rfl) (by kernel_rfl) (fun _ _ _ h => h) (Or.inl (Or.inl ⟨by rfl, ?_⟩)) hS ?_
                  rotate_left
                  focus ((intro w hSw; (try dsimp only at hSw); obtain ⟨d0, d1⟩ := hSw; go_simp); (try with_reducible rfl))
                  intro wq' hwq
                  subst hwq
                  (try simp only [Act.put, List.setIfInBounds_toArray, List.set_cons_zero, List.set_cons_succ])
                  refine wpAnyK_take (fun _ => rfl) (fun _ _ _ h k => h.trans k) (fun _ _ h k => k ▸ h) (i := 5) (oi := { dst := some 167, op := _, type := _, pos := _, after := _, guard := _ }) (v := ?_) rfl (by kernel_rfl) (by kernel_rfl) (by kernel_rfl) (fun _ _ _ h => h) (Or.inl (Or.inl ⟨by rfl, ?_⟩)) hS ?_
                  rotate_left
                  focus ((intro w hSw; (try dsimp only at hSw); obtain ⟨d0, d1⟩ := hSw; go_simp); (try with_reducible rfl))
                  intro wq' hwq
                  subst hwq
                  (try simp only [Act.put, List.setIfInBounds_toArray, List.set_cons_zero, List.set_cons_succ])
                  refine wpAnyK_take (fun _ => rfl) (fun _ _ _ h k => h.trans k) (fun _ _ h k => k ▸ h) (i := 6) (oi := { dst := some 168, op := _, type := _, pos := _, after := _, guard := _ }) (v := ?_) rfl (by kernel_rfl) (by kernel_rfl) (by kernel_rfl) (fun _ _ _ h => h) (Or.inl (Or.inl ⟨by rfl, ?_⟩)) hS ?_
                  rotate_left
                  focus ((intro w hSw; (try dsimp only at hSw); obtain ⟨d0, d1⟩ := hSw; go_simp); (try with_reducible rfl))
                  intro wq' hwq
                  subst hwq
                  (try simp only [Act.put, List.setIfInBounds_toArray, List.set_cons_zero, List.set_cons_succ])
                  refine wpAnyK_take (fun _ => rfl) (fun _ _ _ h k => h.trans k) (fun _ _ h k => k ▸ h) (i := 7) (oi := { dst := some 169, op := _, type := _, pos := _, after := _, guard := _ }) (v := ?_) rfl (by kernel_rfl) (by kernel_rfl) (by kernel_rfl) (fun _ _ _ h => h) (Or.inl (Or.inl ⟨by rfl, ?_⟩)) hS ?_
                  rotate_left
                  focus ((intro w hSw; (try dsimp only at hSw); obtain ⟨d0, d1⟩ := hSw; go_simp); (try with_reducible rfl))
                  intro wq' hwq
                  subst hwq
                  (try simp only [Act.put, List.setIfInBounds_toArray, List.set_cons_zero, List.set_cons_succ])
                  refine wpAnyK_all (rs := [8]) (by kernel_rfl) (by simp) (fun i hi => ?_)
                  simp only [List.mem_cons, List.not_mem_nil, or_false] at hi
                  subst hi
                  refine stepK (o := { dst := some 170, op := _, type := _, pos := _, after := _, guard := _ }) rfl (fun K hK => ?_)
                  go_simp
                  refine (refSameRow_any RU RV rn rn cu cv row row wd HRNN.out HRNN.out (HHU.out.later ld) (HHV.out.later ld) (by omega) (by omega)).mono ?_
                  intro ez wz hz'
                  obtain ⟨rfl, lz⟩ := hz'.yes rfl
                  replace hS := (show _ ∧ _ from ⟨lz.cell hS.1, lz.cell hS.2⟩)
                  refine hK _ _ hS fun wq' hwq => ?_
                  subst hwq
                  have HLZ := Lib.hid ((lat.trans ld).trans lz)
                  clear hK hz' lz ld lat
                  (try simp only [Act.put, List.setIfInBounds_toArray, List.set_cons_zero, List.set_cons_succ])
                  refine wpAnyK_take (fun _ => rfl) (fun _ _ _ h k => h.trans k) (fun _ _ h k => k ▸ h) (i := 9) (oi := { dst := some 171, op := _, type := _, pos := _, after := _, guard := _ }) (v := ?_) rfl (by kernel_rfl) (by kernel_rfl) (by kernel_rfl) (fun _ _ _ h => h) (Or.inl (Or.inl ⟨by rfl, ?_⟩)) hS ?_
                  rotate_left
                  focus ((intro w hSw; (try dsimp only at hSw); obtain ⟨d0, d1⟩ := hSw; go_simp); (try with_reducible rfl))
                  intro wq' hwq
                  subst hwq
                  (try simp only [Act.put, List.setIfInBounds_toArray, List.set_cons_zero, List.set_cons_succ])
                  refine wpAnyK_done (by kernel_rfl) ?_ _
                  clear hS
                  go_wp2_with fail
                  go_roundw
                  all_goals first
                    | exact ⟨k + 1, hlk, by go_num, HLZ.out⟩
                    | (simp [intOf]; omega)
                · have LXd := Lib.hid lat
                  clear lat
                  go_wp2_with fail
                  go_roundw
                  all_goals first
                    | exact ⟨i + 1, hi, by go_num, LAT.out.trans (L21.out.trans (L29.out.trans LXd.out))⟩
                    | (simp [intOf]; omega)
        · have HL9 := Lib.hid (HL57.out.trans lat)
          have HSSA := Lib.hid (show ∀ s ∈ ss, s.l.length ≤ 9223372036854775807 from fun s hs => by have := HLA.out s hs; omega)
          have HTSA := Lib.hid (show ∀ s ∈ ts, s.l.length ≤ 9223372036854775807 from fun s hs => Nat.le_trans (HBB.out.2 s hs).2.1 (HBB.out.2 s hs).2.2.1)
          have HA9 := Lib.hid (HAA.out.later HL9.out)
          have HB9 := Lib.hid (HBB.out.later HL9.out)
          have HW9 := Lib.hid (HL5.out.trans HL9.out)
          clear lat
          go_wp2_with fail
          refine (sameRows_anyW A B n m c d ss ts wr HNS.out HMT.out (by omega) (by omega) HA9.out HB9.out HSSA.out HTSA.out).mono ?_
          rintro e wa1 ⟨r1, hr1, rfl, l1⟩
          have HK1 := Lib.hid l1
          clear l1
          go_wp2_with fail
          refine (refSameRows_anyW A B n m c d ss ts wa1 HNS.out HMT.out (by omega) (by omega) (HA9.out.later HK1.out) (HB9.out.later HK1.out) HSSA.out HTSA.out).mono ?_
          rintro e wa2 ⟨r2, hr2, rfl, l2⟩
          have HK2 := Lib.hid (HK1.out.trans l2)
          have h12 : r2 = r1 := by rw [Bool.eq_iff_iff]; exact hr2.trans hr1.symm
          subst h12
          clear l2 hr1 hr2
          have hbb : (r2 == r2) = true := by simp
          go_wp2_with fail
          refine (sameBag_anyW A B n m c d ss ts wa2 HNS.out HMT.out (by omega) (by omega) (HA9.out.later HK2.out) (HB9.out.later HK2.out) HZA.out HZB.out HSSA.out HTSA.out).mono ?_
          rintro e wa3 ⟨r3, hr3, rfl, l3⟩
          have HK3 := Lib.hid (HK2.out.trans l3)
          clear l3
          go_wp2_with fail
          refine (refSameBag_any A B n m c d ss ts wa3 HNS.out HMT.out (by omega) (by omega) (HA9.out.later HK3.out) (HB9.out.later HK3.out) HSSA.out HTSA.out).mono ?_
          rintro e wa4 ⟨r4, hr4, rfl, l4⟩
          have HK4 := Lib.hid (HK3.out.trans l4)
          have h34 : r4 = r3 := by rw [Bool.eq_iff_iff]; exact hr4.trans hr3.symm
          subst h34
          clear l4 hr3 hr4
          have hbb4 : (r4 == r4) = true := by simp
          go_wp2_with fail
          refine (sameBag_anyW A A n n c c ss ss wa4 HNS.out HNS.out (by omega) (by omega) (HA9.out.later HK4.out) (HA9.out.later HK4.out) HZA.out HZA.out HSSA.out HSSA.out).mono ?_
          intro e wa5 h5
          obtain ⟨rfl, l5⟩ := h5.yes (List.Perm.refl _)
          have HK5 := Lib.hid (HW9.out.trans (HK4.out.trans l5))
          clear l5 h5
          go_wp2_with fail
          go_ret
          exact ⟨rfl, HK5.out⟩
end Go.Proofs.YtlfmmhbaphnifaaRRRRGreatDoor
