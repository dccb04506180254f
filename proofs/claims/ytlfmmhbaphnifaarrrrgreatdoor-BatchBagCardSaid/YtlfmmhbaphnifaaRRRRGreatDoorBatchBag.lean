/- The walk of BatchBag. (tools/gen_bbag.py) -/
import Derived.Test.YtlfmmhbaphnifaaRRRRGreatDoorBeg12
import Derived.Test.YtlfmmhbaphnifaaRRRRGreatDoorPlayS
import Derived.Test.YtlfmmhbaphnifaaRRRRGreatDoorPlayO
import Derived.Test.YtlfmmhbaphnifaaRRRRGreatDoorKripke
import Derived.Test.YtlfmmhbaphnifaaRRRRGreatDoorC3
namespace Go.Proofs.YtlfmmhbaphnifaaRRRRGreatDoor
open Go.RowKit
set_option linter.unusedVariables false

theorem RowsAt.tail {w : World} {b : Nat} {ts : List SlV} (h : RowsAt w (some ⟨b, 0, none⟩) ts) : RowsAt w (some ⟨b, 1, none⟩) (ts.drop 1) := by
  refine ⟨?_, fun s hs => h.2 s (List.mem_of_mem_drop hs)⟩
  rcases h.1 with h0 | ⟨b', off, e, hb, hc⟩
  · left
    rw [List.map_drop, h0]; rfl
  · injection e with e
    injection e with e1 e2
    subst e1 e2
    refine .inr ⟨b, 1, rfl, hb, fun k v hv => ?_⟩
    rw [List.map_drop, List.getElem?_drop] at hv
    have := hc _ v hv
    rw [Nat.zero_add] at this
    exact this
abbrev notS : ByteArray := ⟨#[110, 111, 116, 45, 111, 102, 45, 116, 104, 101, 109]⟩
theorem nest_facts {w8 w9 : World} {base ob tn c' g9 k : Nat} {ts : List SlV} {row : List Val3} (HO2 : w8.ownsRow base 27 1 (.slice (some ⟨ob, 0, none⟩) tn c') tn (ts.map SlV.v)) (HL9 : Later w8 w9) (HC9 : Cells3 w9 g9 row) (hg : w8.heap.size ≤ g9) (hks : k < ts.length) (hk : k < tn) (hv : 1 < row.length) :
    Later w8 (((w9.setCell ⟨g9, 3, none⟩ (.int .i64 4)).setCell ⟨g9, 4, none⟩ (.int .i64 0)).setCell ⟨g9, 5, none⟩ (.string ⟨#[110, 111, 116, 45, 111, 102, 45, 116, 104, 101, 109]⟩)) ∧ (((w9.setCell ⟨g9, 3, none⟩ (.int .i64 4)).setCell ⟨g9, 4, none⟩ (.int .i64 0)).setCell ⟨g9, 5, none⟩ (.string ⟨#[110, 111, 116, 45, 111, 102, 45, 116, 104, 101, 109]⟩)).ownsRow base 27 1 (.slice (some ⟨ob, 0, none⟩) tn c') tn (ts.map SlV.v) ∧ (((w9.setCell ⟨g9, 3, none⟩ (.int .i64 4)).setCell ⟨g9, 4, none⟩ (.int .i64 0)).setCell ⟨g9, 5, none⟩ (.string ⟨#[110, 111, 116, 45, 111, 102, 45, 116, 104, 101, 109]⟩)).cell? ⟨ob, k, none⟩ = some (SlV.v ts[k]) ∧ (((w9.setCell ⟨g9, 3, none⟩ (.int .i64 4)).setCell ⟨g9, 4, none⟩ (.int .i64 0)).setCell ⟨g9, 5, none⟩ (.string ⟨#[110, 111, 116, 45, 111, 102, 45, 116, 104, 101, 109]⟩)).frozen? ⟨ob, k, none⟩ = false ∧ Cells3 (((w9.setCell ⟨g9, 3, none⟩ (.int .i64 4)).setCell ⟨g9, 4, none⟩ (.int .i64 0)).setCell ⟨g9, 5, none⟩ (.string ⟨#[110, 111, 116, 45, 111, 102, 45, 116, 104, 101, 109]⟩)) g9 (row.set 1 (4, 0, ⟨#[110, 111, 116, 45, 111, 102, 45, 116, 104, 101, 109]⟩)) := by
  have h10 : Later w8 (((w9.setCell ⟨g9, 3, none⟩ (.int .i64 4)).setCell ⟨g9, 4, none⟩ (.int .i64 0)).setCell ⟨g9, 5, none⟩ (.string ⟨#[110, 111, 116, 45, 111, 102, 45, 116, 104, 101, 109]⟩)) := Later.of (((HL9.below.setCell (p := ⟨g9, 3, none⟩) hg _).setCell (p := ⟨g9, 4, none⟩) hg _).setCell (p := ⟨g9, 5, none⟩) hg _)
  have ho := own_later HO2 h10
  refine ⟨h10, ho, ?_, ho.frozenAt k, ?_⟩
  · rw [ho.cellAt k (by omega), List.getElem?_map, List.getElem?_eq_getElem hks]; rfl
  · have h := cells3_set HC9 1 hv (4, 0, ⟨#[110, 111, 116, 45, 111, 102, 45, 116, 104, 101, 109]⟩)
    simp only [encV, World.setCells, Nat.one_mul, Nat.reduceAdd] at h
    exact h
/-- Where the turning loop stands. -/
def BgI (ss : List SlV) (t : Nat) (w6 : World) (tv iv : Value) (wr : World) : Prop :=
  ∃ (i : Nat) (T : Option Addr) (n tc : Nat), tv = .slice T n tc ∧ iv = .int .i64 i ∧ i ≤ ss.length ∧ n = i ∧ RowsOn w6.heap.size wr T n tc (rotS ss t i) ∧ Later w6 wr
theorem BgI.mk {ss : List SlV} {t : Nat} {w6 wr : World} (y : Int) (i : Nat) (T : Option Addr) (n tc : Nat) (hy : y = (i : Int)) (hi : i ≤ ss.length) (hn : n = i) (ho : RowsOn w6.heap.size wr T n tc (rotS ss t i)) (L : Later w6 wr) : BgI ss t w6 (.slice T n tc) (.int .i64 y) wr := by
  subst hy; exact ⟨i, T, n, tc, rfl, rfl, hi, hn, ho, L⟩
set_option maxRecDepth 100000 in
theorem batchBag_long (A : Option Addr) (n c : Nat) (q z : Int) (w : World) (hs : S12 w) (hn : 60 < n) :
    Calls Tryz.prog 5 #[.slice A n c, .int .u8 q, .int .u8 z] w fun e w' => e = .returned (.bool true) ∧ Later w w' := by
  have HB := Lib.hid (begun12_any w hs)
  clear hs
  go_enter Tryz.func5, Tryz.ntmps5
  go_wp2_with fail
  refine HB.out.mono ?_
  rintro e w1 ⟨rfl, l1⟩
  have HL1 := Lib.hid l1
  clear l1 HB
  have hn60 : (60 : Int) < (n : Int) := by omega
  go_wp2_with fail
  go_ret
  exact ⟨rfl, HL1.out⟩

set_option maxRecDepth 100000 in
set_option maxHeartbeats 8000000 in
theorem batchBag_walk (A : Option Addr) (n c : Nat) (bs : List Nat) (t z : Nat) (w : World) (hs : S12 w) (hb : bs.length = n) (hn : n ≤ 60) (hr : Has w A (ints .u8 bs)) (h256 : ∀ x ∈ bs, x < 256) (ht : t < 256) (hz : z < 256) :
    Calls Tryz.prog 5 #[.slice A n c, .int .u8 t, .int .u8 z] w fun e w' => e = .returned (.bool true) ∧ Later w w' := by
  have HB := Lib.hid (begun12_any w hs)
  have HSS0 := Lib.hid hs
  have HR := Lib.hid hr
  have hc : PkC n bs := ⟨by omega, hb, h256⟩
  have HCC := Lib.hid hc
  clear hr h256 hb hs hc
  go_enter Tryz.func5, Tryz.ntmps5
  go_wp2_with fail
  refine HB.out.mono ?_
  rintro e w1 ⟨rfl, l1⟩
  have HL1 := Lib.hid l1
  have HR1 := Lib.hid (HR.out.later l1)
  obtain ⟨g, hg⟩ : ∃ g, w1.heap.size = g := ⟨_, rfl⟩
  clear l1 HB HR
  have hn60 : ((60 : Int) < (n : Int)) = False := by simp; omega
  go_wp2_with (go_at_call 8; refine (made_any A n c _).mono ?_; rintro e w2 ⟨rfl, hw2⟩)
  have l2 : Later w1 w2 := hw2 ▸ Later.new _ _
  have HPK2 := Lib.hid (show Pks w2 g A n c bs from ⟨⟨0, Nat.zero_le _, hw2 ▸ Blk.new _ _ _ g hg.symm⟩, by
    have h := HR1.out
    rcases h with h | ⟨b, off, hA, hb, hcc⟩
    · exact .inl h
    · exact .inr ⟨b, off, hA, by omega, fun k v hv => l2.cell (hcc k v hv)⟩⟩)
  have HL2 := Lib.hid l2
  have HPK2L := Lib.hid HPK2.out.lt
  have HG0 := Lib.hid hg
  clear l2 hw2 HR1 hg hn60
  refine (schema_any g A n c bs w2 HCC.out HPK2.out).mono ?_
  rintro e w3 ⟨t0, m, tys, V, vc, es, E, ec, d0, d1, d2, rfl, ⟨hm, htl, ht0, htys⟩, ⟨hes, het, hlay⟩, rs⟩
  obtain ⟨cols, hcols⟩ : ∃ x, playCols t0 m tys = x := ⟨_, rfl⟩
  rw [hcols] at rs
  have hcl : cols.length = m + 2 := by rw [← hcols, playCols_len, htl]
  obtain ⟨vn, hvn⟩ : ∃ x, m + 2 = x := ⟨_, rfl⟩
  rw [hvn] at rs hcl
  rw [hvn]
  have hvb : 2 ≤ vn ∧ vn ≤ 4 := by omega
  have HCL := Lib.hid hcl
  have hVX : HasX (some g) w3 V (fc cols) := HasX.own rs.oV fun _ h => by injection h with h; rw [← h]; exact rs.far.1
  have HRS := Lib.hid rs
  obtain ⟨gs, hgs⟩ : ∃ x, w3.heap.size = x := ⟨_, rfl⟩
  have HGG := Lib.hid (show g < gs by rw [← hgs]; exact Nat.lt_of_lt_of_le HPK2.out.lt rs.far.size)
  obtain ⟨w4, hw4⟩ : ∃ x : World, (w3.alloc (.cells #[.slice V vn vc, .int .i64 vn] 32)).alloc (.cells #[.int .i64 d0, .int .i64 d1, .int .i64 d2, .slice E vn ec] 34) = x := ⟨_, rfl⟩
  have l4 : Later w3 w4 := hw4 ▸ (Later.new _ _).alloc _
  have HS4 := Lib.hid (show Blk w4 gs #[.slice V vn vc, .int .i64 vn] 32 from hw4 ▸ (Blk.new w3 _ _ gs hgs.symm).later (Later.new _ _))
  have HGS4 := Lib.hid (show gs < w4.heap.size from HS4.out.lt)
  have hz4 : w4.heap.size = gs + 2 := by rw [← hw4, ← hgs]; simp
  have HP4 := Lib.hid (rs.pk.later l4)
  have HF4 := Lib.hid (rs.far.later l4)
  have HV4 := Lib.hid (hVX.later l4)
  clear hcols hvn hcl l4 HRS rs htys het hlay hes ht0 htl HPK2 hVX
  have s0 := HS4.out.cell 0 _ rfl
  have s1 := HS4.out.cell 1 _ rfl
  go_wp2_with fail
  refine wp_region_K (S := fun W : World => W.cell? ⟨gs, 0, none⟩ = some (.slice V vn vc) ∧ W.cell? ⟨gs, 1, none⟩ = some (.int .i64 vn)) (R := fun a b => a = b) (fun _ => rfl) (by kernel_rfl) ?_
  obtain ⟨wd, hwd⟩ : ∃ x, w4.drew = x := ⟨_, rfl⟩
  have ld : Later w4 wd := hwd ▸ (Later.refl w4).drew
  have hS : (fun W : World => W.cell? ⟨gs, 0, none⟩ = some (.slice V vn vc) ∧ W.cell? ⟨gs, 1, none⟩ = some (.int .i64 vn)) wd := ⟨ld.cell s0, ld.cell s1⟩
  rw [hwd]
  have HPd := Lib.hid (HP4.out.later ld)
  have HVd := Lib.hid (HV4.out.later ld)
  have HSd := Lib.hid (HS4.out.later ld)
  have HFd := Lib.hid (HF4.out.later ld)
  have HSZd := Lib.hid (show gs < wd.heap.size from HSd.out.lt)
  clear hwd ld s0 s1 HP4 HV4 HS4 HF4 hw4 hgs hz4
  refine wpAnyK_take (fun _ => rfl) (fun _ _ _ h k => h.trans k) (fun _ _ h k => k ▸ h) (i := 0) (oi := { dst := some 28, op := _, type := _, pos := _, after := _, guard := _ }) (v := ?_) rfl (by kernel_rfl) (by kernel_rfl) (by kernel_rfl) (fun _ _ _ h => h) (Or.inl (Or.inl ⟨by rfl, ?_⟩)) hS ?_
  rotate_left
  focus ((intro w hSw; (try dsimp only at hSw); obtain ⟨d0, d1⟩ := hSw; go_simp); (try with_reducible rfl))
  intro wq hwq
  subst hwq
  (try simp only [Act.put, List.setIfInBounds_toArray, List.set_cons_zero, List.set_cons_succ])
  refine wpAnyK_take (fun _ => rfl) (fun _ _ _ h k => h.trans k) (fun _ _ h k => k ▸ h) (i := 1) (oi := { dst := some 29, op := _, type := _, pos := _, after := _, guard := _ }) (v := ?_) rfl (by kernel_rfl) (by kernel_rfl) (by kernel_rfl) (fun _ _ _ h => h) (Or.inl (Or.inl ⟨by rfl, ?_⟩)) hS ?_
  rotate_left
  focus ((intro w hSw; (try dsimp only at hSw); obtain ⟨d0, d1⟩ := hSw; go_simp); (try with_reducible rfl))
  intro wq hwq
  subst hwq
  (try simp only [Act.put, List.setIfInBounds_toArray, List.set_cons_zero, List.set_cons_succ])
  refine wpAnyK_take (fun _ => rfl) (fun _ _ _ h k => h.trans k) (fun _ _ h k => k ▸ h) (i := 2) (oi := { dst := some 30, op := _, type := _, pos := _, after := _, guard := _ }) (v := ?_) rfl (by kernel_rfl) (by kernel_rfl) (by kernel_rfl) (fun _ _ _ h => h) (Or.inl (Or.inl ⟨by rfl, ?_⟩)) hS ?_
  rotate_left
  focus ((intro w hSw; (try dsimp only at hSw); obtain ⟨d0, d1⟩ := hSw; go_simp); (try with_reducible rfl))
  intro wq hwq
  subst hwq
  (try simp only [Act.put, List.setIfInBounds_toArray, List.set_cons_zero, List.set_cons_succ])
  refine wpAnyK_all (rs := [3]) (by kernel_rfl) (by simp) (fun i hi => ?_)
  simp only [List.mem_cons, List.not_mem_nil, or_false] at hi
  subst hi
  refine stepK (o := { dst := some 31, op := _, type := _, pos := _, after := _, guard := _ }) rfl (fun K hK => ?_)
  go_simp
  refine (num_any 12 g A n c bs wd (by omega) HCC.out HPd.out).mono ?_
  rintro e w5 ⟨r, hr12, rfl, hp5, hf5⟩
  have HP5 := Lib.hid hp5
  have HS5 := Lib.hid (hf5.blk HSd.out (by have := HGG.out; omega))
  have HF5 := Lib.hid (HFd.out.trans hf5)
  have HV5 := Lib.hid (HVd.out.far hf5)
  replace hS : (fun W : World => W.cell? ⟨gs, 0, none⟩ = some (.slice V vn vc) ∧ W.cell? ⟨gs, 1, none⟩ = some (.int .i64 vn)) w5 := ⟨HS5.out.cell 0 _ rfl, HS5.out.cell 1 _ rfl⟩
  refine hK _ _ hS fun wq hwq => ?_
  subst hwq
  clear hK hp5 hf5 HPd HVd HSd HFd
  (try simp only [Act.put, List.setIfInBounds_toArray, List.set_cons_zero, List.set_cons_succ])
  obtain ⟨N, hN⟩ : ∃ N, 1 + r = N := ⟨_, rfl⟩
  have hN12 : 1 ≤ N ∧ N ≤ 12 := by omega
  have hNi : (1 : Int) + (r : Int) = (N : Int) := by omega
  have hNw : IntKind.i64.wrap (N : Int) = (N : Int) := IntWalk.i64_in _ ⟨by omega, by omega⟩
  refine wpAnyK_take (fun _ => rfl) (fun _ _ _ h k => h.trans k) (fun _ _ h k => k ▸ h) (i := 4) (oi := { dst := some 32, op := _, type := _, pos := _, after := _, guard := _ }) (v := ?_) rfl (by kernel_rfl) (by kernel_rfl) (by kernel_rfl) (fun _ _ _ h => h) (Or.inl (Or.inl ⟨by rfl, ?_⟩)) hS ?_
  rotate_left
  focus ((intro w hSw; (try dsimp only at hSw); obtain ⟨d0, d1⟩ := hSw; go_simp); (try with_reducible rfl))
  intro wq hwq
  subst hwq
  (try simp only [Act.put, List.setIfInBounds_toArray, List.set_cons_zero, List.set_cons_succ])
  (try rw [hNi])
  (try rw [hNw])
  clear hN hNi hNw hr12
  refine wpAnyK_all (rs := [5]) (by kernel_rfl) (by simp) (fun i hi => ?_)
  simp only [List.mem_cons, List.not_mem_nil, or_false] at hi
  subst hi
  refine stepK (o := { dst := some 33, op := _, type := _, pos := _, after := _, guard := _ }) rfl (fun K hK => ?_)
  go_simp
  refine (rows_any N g A n c bs V vn vc vn cols w5 HCC.out HP5.out HCL.out.symm (by omega) (by omega) HV5.out).mono ?_
  rintro e w6 ⟨ss, Lr, lc, rfl, hss, hon, hfit, hp6, hf6⟩
  have HS6 := Lib.hid (hf6.blk HS5.out (by have := HGG.out; omega))
  replace hS : (fun W : World => W.cell? ⟨gs, 0, none⟩ = some (.slice V vn vc) ∧ W.cell? ⟨gs, 1, none⟩ = some (.int .i64 vn)) w6 := ⟨HS6.out.cell 0 _ rfl, HS6.out.cell 1 _ rfl⟩
  refine hK _ _ hS fun wq hwq => ?_
  subst hwq
  have HRA := Lib.hid hon.at_
  have HNIL := Lib.hid hon.2.2.2
  have HSS := Lib.hid hss
  have HFIT := Lib.hid hfit
  have HLEN := Lib.hid (fun s hs => ((hfit s hs).2.1.trans HCL.out) : ∀ s ∈ ss, s.l.length = vn)
  have HL6 := Lib.hid (HL1.out.trans ((HF5.out.trans hf6).out HG0.out.symm HL2.out))
  clear hK hss hon hfit hp6 hf6 HP5 HV5 HS5 HS6 HF5 HGG HPK2L HCC HL1 HL2 HG0 HSS0
  (try simp only [Act.put, List.setIfInBounds_toArray, List.set_cons_zero, List.set_cons_succ])
  refine wpAnyK_take (fun _ => rfl) (fun _ _ _ h k => h.trans k) (fun _ _ h k => k ▸ h) (i := 6) (oi := { dst := some 10, op := _, type := _, pos := _, after := _, guard := _ }) (v := ?_) rfl (by kernel_rfl) (by kernel_rfl) (by kernel_rfl) (fun _ _ _ h => h) (Or.inl (Or.inl ⟨by rfl, ?_⟩)) hS ?_
  rotate_left
  focus ((intro w hSw; (try dsimp only at hSw); obtain ⟨d0, d1⟩ := hSw; go_simp); (try with_reducible rfl))
  intro wq hwq
  subst hwq
  (try simp only [Act.put, List.setIfInBounds_toArray, List.set_cons_zero, List.set_cons_succ])
  refine wpAnyK_done (by kernel_rfl) ?_ _
  clear hS
  have HI0 := Lib.hid (BgI.mk (ss := ss) (t := t) (w6 := w6) (wr := w6) 0 0 none 0 0 rfl (Nat.zero_le _) rfl (RowsOn.nil_ _ _) (Later.refl _))
  go_wp2_with fail
  go_loopw [11, 12] (fun tv iv wr => BgI ss t w6 tv iv wr) (fun _ i _ => N - (intOf i).toNat)
  case atStart => exact HI0.out
  case round =>
    obtain ⟨i, T, tn, tc, rfl, rfl, hi, hin, hon, lat⟩ := hrel
    have hiN : i ≤ N := by have := HSS.out; omega
    subst hin
    have HON := Lib.hid hon
    have HLAT := Lib.hid lat
    clear hon HI0
    by_cases hlt : tn < N
    · obtain ⟨q, hq⟩ : ∃ q, (tn + t) % N = q := ⟨_, rfl⟩
      have hqN : q < N := hq ▸ Nat.mod_lt _ (by omega)
      have hqs : q < ss.length := by have := HSS.out; omega
      have HT := Lib.hid (rotS_succ ss t tn q (by rw [HSS.out]; exact hq) hqs)
      have HOK0 := Lib.hid (HRA.out.1.2 _ (List.getElem_mem hqs))
      obtain ⟨b0, o0, hA0, ck0, _⟩ := HRA.out.1.get q hqs
      subst hA0
      have ck := lat.cell ck0
      have hx1 : IntKind.i64.wrap (t : Int) = (t : Int) := IntWalk.i64_in _ ⟨by omega, by omega⟩
      have hx2 : IntKind.i64.wrap ((tn : Int) + (t : Int)) = (tn : Int) + (t : Int) := IntWalk.i64_in _ ⟨by omega, by omega⟩
      have hx4 : IntKind.i64.wrap (q : Int) = (q : Int) := IntWalk.i64_in _ ⟨by omega, by omega⟩
      have hx5 : ((tn : Int) + (t : Int)) % (N : Int) = (q : Int) := by rw [← hq]; simp
      have hx3 : ((tn : Int) + (t : Int)).tmod (N : Int) = (q : Int) := by rw [Int.tmod_eq_emod_of_nonneg (by omega)]; exact hx5
      have hN0 : ¬ (N : Int) = 0 := by omega
      obtain ⟨s, hse⟩ : ∃ s, ss[q] = s := ⟨_, rfl⟩
      rw [hse] at ck HT HOK0
      obtain ⟨R, rc, row⟩ := s
      dsimp only at ck
      obtain ⟨rn, hrn⟩ : ∃ x, row.length = x := ⟨_, rfl⟩
      rw [hrn] at ck
      have HRL := Lib.hid (show (⟨R, rc, row⟩ : SlV).v = .slice R rn rc by rw [SlV.v_eq]; dsimp only; rw [hrn])
      have HBK := Lib.hid (fun (wz : World) => Blk.new wz #[.slice R rn rc] 27 wz.heap.size rfl)
      have HOA := Lib.hid (fun (o : Obj) => HON.out.later (Later.new wr o))
      have HOKA := Lib.hid (fun (o : Obj) => HOK0.out.fresh (o := (Value.slice T tn tc).ownBlock) (lat.alloc o) (fun g hg => (HON.out.2.1.lt g hg).1))
      have HSZ := Lib.hid (show w6.heap.size ≤ wr.heap.size from lat.size)
      clear hse ck0 hrn lat
      go_wp2_with (at_builtin; refine wpList_append_x _ rfl (.tmp 40) (.tmp 51) 22 rfl w6.heap.size 27 _ 1 24 Tryz.underlying22 info_row rfl (by decide) _ tn _ rfl (HOA.out _).2.1 _ 0 1 1 [.slice R rn rc] rfl (HBK.out wr).has rfl (by intro u hu; rw [List.mem_singleton] at hu; subst hu; rfl) (by unfold maxLen; omega) (by omega) (by have := HSZ.out; simp; omega) ?_; rintro A' c' wq hO hgr hbel hat hn2; have HO2 := Lib.hid (RowsOn.more (s := ⟨R, rc, row⟩) (HOA.out _) (HOKA.out _) (by rw [HRL.out]; exact hO) hgr hat hn2); have HL2 := Lib.hid (Later.of ((HLAT.out.alloc _).below.trans hbel)); clear hO hn2 hbel hgr hat)
      go_roundw
      all_goals first
        | exact BgI.mk _ (tn + 1) _ _ _ (by omega) (by have := HSS.out; omega) (by omega) (by rw [HT.out]; exact HO2.out) HL2.out
        | (simp [intOf]; omega)
    · have hin : tn = N := by omega
      subst hin
      obtain ⟨tb, htb⟩ : ∃ b, T = some ⟨b, 0, none⟩ := by
        rcases HON.out.2.1.2 with ⟨_, h0⟩ | ⟨g, cap, cur, hv, _⟩
        · omega
        · injection hv with e1 e2 e3; exact ⟨g, e1⟩
      subst htb
      obtain ⟨ts, hts⟩ : ∃ x, rotS ss t tn = x := ⟨_, rfl⟩
      rw [hts] at HON
      have HPERM := Lib.hid (show ts.Perm ss by
        rw [← hts]
        have h := rotS_perm ss t (by rw [HSS.out]; omega)
        rw [HSS.out] at h; exact h)
      have HTS := Lib.hid (show ts.length = tn by rw [← hts, rotS_len])
      clear hts
      have HTM := Lib.hid (fun (s : SlV) (h : s ∈ ts) => HPERM.out.mem_iff.1 h)
      have HTA := Lib.hid (HON.out.at_)
      have hT1 : ((tn : Int)) ≠ 0 := by omega
      obtain ⟨k, hk⟩ : ∃ k, z % tn = k := ⟨_, rfl⟩
      have hkN : k < tn := hk ▸ Nat.mod_lt _ (by omega)
      have hz1 : IntKind.i64.wrap (z : Int) = (z : Int) := IntWalk.i64_in _ ⟨by omega, by omega⟩
      have hz5 : (z : Int) % (tn : Int) = (k : Int) := by rw [← hk]; simp
      have hz3 : (z : Int).tmod (tn : Int) = (k : Int) := by rw [Int.tmod_eq_emod_of_nonneg (by omega)]; exact hz5
      have hz4 : IntKind.i64.wrap (k : Int) = (k : Int) := IntWalk.i64_in _ ⟨by omega, by omega⟩
      have hN0 : ¬ (tn : Int) = 0 := by omega
      obtain ⟨w7, hw7⟩ : ∃ x, x = wr := ⟨_, rfl⟩
      subst hw7
      have HEM := Lib.hid (fun (wz : World) (h : w7.heap.size ≤ wz.heap.size) => own_empty wz w7.heap.size 27 1 h)
      have HTH := Lib.hid (fun (o : Obj) => HTA.out.1.1.later (Later.new w7 o))
      have hks : k < ts.length := by have := HTS.out; omega
      obtain ⟨b7, o7, hA7, ck7, hh7, hrc7, hrcm7, hn7⟩ := HTA.out.1.get k hks
      injection hA7 with hA7
      injection hA7 with e1 e2
      subst e1 e2
      have HTK := Lib.hid (show (ts[k].l.length = vn) from HLEN.out _ (HTM.out _ (List.getElem_mem hks)))
      obtain ⟨s, hse⟩ : ∃ s, ts[k] = s := ⟨_, rfl⟩
      rw [hse] at ck7 hh7 HTK
      have HTG := Lib.hid hse
      obtain ⟨R, rc, row⟩ := s
      dsimp only at ck7 hh7
      have hrow := HTK.out
      dsimp only at hrow
      rw [hrow, Nat.zero_add] at ck7
      obtain ⟨rb, ro, hR⟩ : ∃ rb ro, R = some ⟨rb, ro, none⟩ := by
        rcases hh7 with h | ⟨b, off, h, _⟩
        · have h2 := congrArg List.length h
          rw [fl_length, hrow] at h2
          simp at h2; omega
        · exact ⟨b, off, h⟩
      subst hR
      have HROWN := Lib.hid hrow
      have HCK7 := Lib.hid ck7
      have HHH7 := Lib.hid hh7
      clear hk lat hse ck7 hh7 hrc7 hrcm7 hn7 HTK hrow
      go_wp2_with (first | (at_builtin; refine wpList_append_x _ rfl (.tmp 58) (.tmp 59) 22 rfl w7.heap.size 27 _ 1 24 Tryz.underlying22 info_row rfl (by decide) _ 0 [] rfl (HEM.out _ (Nat.le_refl _)) _ 0 tn tc (ts.map SlV.v) rfl (HTH.out _) (by rw [List.length_map, HTS.out]; omega) (by intro u hu; obtain ⟨s, _, rfl⟩ := List.mem_map.1 hu; rfl) (by unfold maxLen; omega) (by omega) (by simp) ?_; rintro A' c' w8 hO hgr hbel hat hn2; rw [Nat.zero_add, List.nil_append] at hO; obtain ⟨ob, hob⟩ := own_some hO (by omega); subst hob; simp only [Nat.zero_add]; have HO2 := Lib.hid hO; have HON2 := Lib.hid hn2; have HL8 := Lib.hid (Later.of ((Later.new w7 (.cells #[] 27)).below.trans hbel)); have ck := HL8.out.cell HCK7.out; have ckA := (Later.new w8 (.cells #[] 55)).cell ck; have HEM2 := Lib.hid (fun (wz : World) (h : w8.heap.size ≤ wz.heap.size) => own_empty wz w8.heap.size 55 3 h);  have HRH := Lib.hid (fun (o : Obj) => (HHH7.out.later HL8.out).later (Later.new w8 o)); clear hO hn2 hbel hgr hat) | (at_builtin; refine wpList_append_x _ rfl (.tmp 61) (.tmp 65) 27 rfl w8.heap.size 55 _ 3 32 Tryz.underlying27 info_v rfl (by decide) _ 0 [] rfl (HEM2.out _ (Nat.le_refl _)) _ ro vn rc (fl row) rfl (HRH.out _) (by rw [fl_length, HROWN.out]) (fl_one _) (by unfold maxLen; omega) (by omega) (by simp) ?_; rintro A9 c9 w9 hO hgr hbel hat hn2; rw [Nat.zero_add, List.nil_append] at hO; obtain ⟨g9, hg9⟩ := own_some hO (by omega); subst hg9; simp only [Nat.zero_add]; have HR2 := Lib.hid hO; have HC9 := Lib.hid (cells3_own hO (hO.lt g9 rfl).2); obtain ⟨y0, y1, y2, f0, f1, f2⟩ := HC9.out.get 1 (by rw [HROWN.out]; omega); simp only [Nat.one_mul, Nat.reduceAdd] at y0 y1 y2 f0 f1 f2; have hg9b : w8.heap.size ≤ g9 := (hO.lt g9 rfl).1;  have HRN2 := Lib.hid hn2; have HL9 := Lib.hid (Later.of ((Later.new w8 (.cells #[] 55)).below.trans hbel)); obtain ⟨hl10, ho10, q0, q1, hc10⟩ := nest_facts HO2.out HL9.out HC9.out hg9b hks (by omega) (by rw [HROWN.out]; omega); have HL10 := Lib.hid hl10; have HO10 := Lib.hid ho10; have HC10 := Lib.hid hc10; clear hl10 ho10 hc10; clear hO hn2 hbel hgr hat))
      clear y0 y1 y2 f0 f1 f2 q0 q1
      obtain ⟨row2, hrow2⟩ : ∃ x, row.set 1 (4, 0, ⟨#[110, 111, 116, 45, 111, 102, 45, 116, 104, 101, 109]⟩) = x := ⟨_, rfl⟩
      rw [hrow2] at HC10
      have HRW2 := Lib.hid hrow2
      have HRL2 := Lib.hid (show row2.length = vn by rw [← hrow2, List.length_set]; exact HROWN.out)
      obtain ⟨w10, hw10⟩ : ∃ x : World, (((w9.setCell ⟨g9, 3, none⟩ (.int .i64 4)).setCell ⟨g9, 4, none⟩ (.int .i64 0)).setCell ⟨g9, 5, none⟩ (.string ⟨#[110, 111, 116, 45, 111, 102, 45, 116, 104, 101, 109]⟩)) = x := ⟨_, rfl⟩
      rw [hw10] at HL10 HO10 HC10 ⊢
      obtain ⟨w11, hw11⟩ : ∃ x : World, w10.setCell ⟨ob, k, none⟩ (.slice (some ⟨g9, 0, none⟩) vn c9) = x := ⟨_, rfl⟩
      rw [hw11]
      have hbo := (HO10.out.lt ob rfl).1
      have HL11 := Lib.hid (show Later w7 w11 from hw11 ▸ Later.of ((HL8.out.trans HL10.out).below.setCell (p := ⟨ob, k, none⟩) hbo _))
      have hob9 : ob ≠ g9 := by
        intro e
        have h1 := (HO2.out.lt ob rfl).2
        have h2 := (HR2.out.lt g9 rfl).1
        omega
      have HHO := Lib.hid (show Has w11 (some ⟨ob, 0, none⟩) ((ts.set k ⟨some ⟨g9, 0, none⟩, c9, row2⟩).map SlV.v) from by
        have h := has_set (Has.own HO10.out) k (by rw [List.length_map]; exact hks) (.slice (some ⟨g9, 0, none⟩) vn c9)
        rw [hw11] at h
        rw [List.map_set, SlV.v_eq]
        dsimp only
        rw [HRL2.out]
        exact h)
      have HHR := Lib.hid (show Has w11 (some ⟨g9, 0, none⟩) (fl row2) from by
        have h := HC10.out.has
        rcases h with h | ⟨b, off, e, hb, hc⟩
        · exact .inl h
        · injection e with e
          injection e with e1 e2
          subst e1 e2
          refine .inr ⟨g9, 0, rfl, ?_, fun j v hv => ?_⟩
          · rw [← hw11]; exact Nat.lt_of_lt_of_le hb (by simp)
          · rw [← hw11]
            have h1 := World.cell?_setCells_out ob [.slice (some ⟨g9, 0, none⟩) vn c9] k w10 ⟨g9, 0 + j, none⟩ (fun e _ => absurd e.symm hob9)
            exact h1.trans (hc j v hv))
      have hcm9 := ownG_capmax HR2.out
      have hcv9 := ownG_cap HR2.out
      have HOO := Lib.hid (show RowsAt w11 (some ⟨ob, 0, none⟩) (ts.set k ⟨some ⟨g9, 0, none⟩, c9, row2⟩) from ⟨HHO.out, fun s hs => by
        rcases List.mem_or_eq_of_mem_set hs with hs | hs
        · exact (HTA.out.1.2 s hs).later HL11.out
        · subst hs
          exact ⟨HasX.of HHR.out, by dsimp only; rw [HRL2.out]; exact hcv9, hcm9, fun h => by cases h⟩⟩)
      have HTA2 := Lib.hid (HTA.out.1.later HL11.out)
      have HRR2 := Lib.hid (HRA.out.1.later (HLAT.out.trans HL11.out))
      have HL12 := Lib.hid (HL6.out.trans (HLAT.out.trans HL11.out))
      clear hw10 hw11 hbo hob9 hcm9 hcv9 hrow2 HHO HHR HC10 HO10 HL10 HL11 HR2 HRN2 HL9 HO2 HON2 HL8 HEM HEM2 HRH HTH ck ckA
      have HLA := Lib.hid (show ∀ s ∈ ss, s.l.length ≤ 1000 from fun s hs => by rw [HLEN.out s hs]; omega)
      have HLB := Lib.hid (show ∀ s ∈ ts, s.l.length ≤ 1000 from fun s hs => by rw [HLEN.out s (HTM.out s hs)]; omega)
      have HLO := Lib.hid (show ∀ s ∈ ts.set k ⟨some ⟨g9, 0, none⟩, c9, row2⟩, s.l.length ≤ 1000 from fun s hs => by
        rcases List.mem_or_eq_of_mem_set hs with hs | hs
        · exact HLB.out s hs
        · subst hs; dsimp only; rw [HRL2.out]; omega)
      have HNOT := Lib.hid (show ¬ (ss.map (·.l)).Perm ((ts.set k ⟨some ⟨g9, 0, none⟩, c9, row2⟩).map (·.l)) from fun h => by
        have h1 : row2 ∈ ss.map (·.l) := h.mem_iff.2 (List.mem_map.2 ⟨⟨some ⟨g9, 0, none⟩, c9, row2⟩, List.mem_set hks _, rfl⟩)
        obtain ⟨s, hs, e⟩ := List.mem_map.1 h1
        have hf := (HFIT.out s hs).2.2
        have hx : cols[1]? = some (cols[1]'(by rw [HCL.out]; omega)) := List.getElem?_eq_getElem _
        have hv : s.l[1]? = some (4, 0, ⟨#[110, 111, 116, 45, 111, 102, 45, 116, 104, 101, 109]⟩) := by
          rw [e, ← HRW2.out, List.getElem?_set_self (by rw [HROWN.out]; omega)]
        exact (hf 1 _ _ hx hv).2 rfl)
      go_wp2_with fail
      refine (sameBag_any Lr (some ⟨tb, 0, none⟩) tn tn lc tc ss ts w11 HSS.out.symm HTS.out.symm (by omega) (by omega) HRR2.out HTA2.out HNIL.out (fun h => by cases h) HLA.out HLB.out).mono ?_
      intro e w12 h
      obtain ⟨rfl, l12⟩ := h.yes ((HPERM.out.map (·.l)).symm)
      have HL13 := Lib.hid l12
      clear h l12
      go_wp2_with fail
      refine (sameBag_any Lr (some ⟨ob, 0, none⟩) tn tn lc c' ss (ts.set k ⟨some ⟨g9, 0, none⟩, c9, row2⟩) w12 HSS.out.symm (by rw [List.length_set]; exact HTS.out.symm) (by omega) (by omega) (HRR2.out.later HL13.out) (HOO.out.later HL13.out) HNIL.out (fun h => by cases h) HLA.out HLO.out).mono ?_
      intro e w13 h
      obtain ⟨rfl, l13⟩ := h.no HNOT.out
      have HL14 := Lib.hid (HL13.out.trans l13)
      clear h l13
      have htc := HTA.out.2
      have h1t : (1 : Int) ≤ (tn : Int) := by omega
      have h1c : (1 : Int) ≤ (tc : Int) := by omega
      have htc1 : (tn : Int) ≤ (tc : Int) := by omega
      go_wp2_with fail
      · have HD := Lib.hid (show RowsAt w13 (some ⟨tb, 0, none⟩) (ts.drop 1) from ⟨.inl (by have h : ts.drop 1 = [] := List.drop_eq_nil_of_le (by rw [HTS.out]; omega); rw [h]; rfl), fun s hs => by have h : ts.drop 1 = [] := List.drop_eq_nil_of_le (by rw [HTS.out]; omega); rw [h] at hs; cases hs⟩)
        refine (sameBag_any Lr (some ⟨tb, 0, none⟩) tn (tn - 1) lc 0 ss (ts.drop 1) w13 HSS.out.symm (by rw [List.length_drop, HTS.out]) (by omega) (by omega) (HRR2.out.later HL14.out) HD.out HNIL.out (fun h => by cases h) HLA.out (fun s hs => HLB.out s (List.mem_of_mem_drop hs))).mono ?_
        intro e w14 h
        obtain ⟨rfl, l14⟩ := h.no (fun hp => by
          have := hp.length_eq
          rw [List.length_map, List.length_map, List.length_drop, HSS.out, HTS.out] at this
          omega)
        have HL15 := Lib.hid (HL12.out.trans (HL14.out.trans l14))
        clear h l14
        go_wp2_with fail
        refine (sameBag_any none none 0 0 0 0 [] [] w14 rfl rfl (by omega) (by omega) ⟨.inl rfl, fun s hs => by cases hs⟩ ⟨.inl rfl, fun s hs => by cases hs⟩ (fun _ => rfl) (fun _ => rfl) (fun s hs => by cases hs) (fun s hs => by cases hs)).mono ?_
        intro e w15 h
        obtain ⟨rfl, l15⟩ := h.yes (List.Perm.refl _)
        have HL16 := Lib.hid (HL15.out.trans l15)
        clear h l15
        go_wp2_with fail
        go_ret
        exact ⟨rfl, HL16.out⟩
      · have HD := Lib.hid (show RowsAt w13 (some ⟨tb, 1, none⟩) (ts.drop 1) from (HTA2.out.later HL14.out).tail)
        refine (sameBag_any Lr (some ⟨tb, 1, none⟩) tn (tn - 1) lc (tc - 1) ss (ts.drop 1) w13 HSS.out.symm (by rw [List.length_drop, HTS.out]) (by omega) (by omega) (HRR2.out.later HL14.out) HD.out HNIL.out (fun h => by cases h) HLA.out (fun s hs => HLB.out s (List.mem_of_mem_drop hs))).mono ?_
        intro e w14 h
        obtain ⟨rfl, l14⟩ := h.no (fun hp => by
          have := hp.length_eq
          rw [List.length_map, List.length_map, List.length_drop, HSS.out, HTS.out] at this
          omega)
        have HL15 := Lib.hid (HL12.out.trans (HL14.out.trans l14))
        clear h l14
        go_wp2_with fail
        refine (sameBag_any none none 0 0 0 0 [] [] w14 rfl rfl (by omega) (by omega) ⟨.inl rfl, fun s hs => by cases hs⟩ ⟨.inl rfl, fun s hs => by cases hs⟩ (fun _ => rfl) (fun _ => rfl) (fun s hs => by cases hs) (fun s hs => by cases hs)).mono ?_
        intro e w15 h
        obtain ⟨rfl, l15⟩ := h.yes (List.Perm.refl _)
        have HL16 := Lib.hid (HL15.out.trans l15)
        clear h l15
        go_wp2_with fail
        go_ret
        exact ⟨rfl, HL16.out⟩
end Go.Proofs.YtlfmmhbaphnifaaRRRRGreatDoor
