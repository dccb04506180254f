/- The walk of BatchTurns. (tools/gen_bturns.py) -/
import Derived.Test.YtlfmmhbaphnifaaRRRRGreatDoorBeg12
import Derived.Test.YtlfmmhbaphnifaaRRRRGreatDoorPlayS
import Derived.Test.YtlfmmhbaphnifaaRRRRGreatDoorPlayO
import Derived.Test.YtlfmmhbaphnifaaRRRRGreatDoorKripke
import Derived.Test.YtlfmmhbaphnifaaRRRRGreatDoorKeep
namespace Go.Proofs.YtlfmmhbaphnifaaRRRRGreatDoor
open Go.RowKit
set_option linter.unusedVariables false

theorem pick_same (L : List (List Val3)) (W k : Nat) (hk : L.length = k) : pickC (colsT L W) (upto k) = colsT L W := by
  unfold pickC
  conv => rhs; rw [← List.map_id (colsT L W)]
  refine List.map_congr_left fun c hc => ?_
  obtain ⟨i, _, rfl⟩ := List.mem_map.1 hc
  have h := pick1_all (colK L i) k (by rw [colK_len, hk]; exact Nat.le_refl _)
  rw [show upto k = (List.range k).map fun (i : Nat) => (i : Int) from rfl, h, List.take_of_length_le (by rw [colK_len, hk]; exact Nat.le_refl _)]; rfl
theorem Has.past {w w' : World} {A : Option Addr} {xs : List Value} {row : Option Nat} {N : Nat} (h : Has w A xs) (g : w.grownBy w' row) (hq : ∀ q, row = some q → q < N) (hA : ∀ b off, A = some ⟨b, off, none⟩ → N ≤ b) : Has w' A xs := by
  rcases h with h | ⟨b, off, e, hb, hc⟩
  · exact .inl h
  · refine .inr ⟨b, off, e, Nat.lt_of_lt_of_le hb g.size, fun k v hv => ?_⟩
    have h1 := hA b off e
    rw [cell_block (g.block b hb fun h => by have := hq b h.symm; omega)]
    exact hc k v hv
theorem RowsAt.past {w w' : World} {A : Option Addr} {ss : List SlV} {row : Option Nat} {N : Nat} (h : RowsAt w A ss) (g : w.grownBy w' row) (hq : ∀ q, row = some q → q < N) (hA : ∀ b off, A = some ⟨b, off, none⟩ → N ≤ b) (hs : ∀ s ∈ ss, ∀ b off, s.a = some ⟨b, off, none⟩ → N ≤ b) : RowsAt w' A ss :=
  ⟨h.1.past g hq hA, fun s h' => ⟨HasX.of ((h.2 s h').1.has.past g hq (hs s h')), (h.2 s h').2⟩⟩
set_option maxRecDepth 100000 in
theorem batchTurns_long (A : Option Addr) (n c : Nat) (q : Int) (w : World) (hs : S12 w) (hn : 60 < n) :
    Calls Tryz.prog 6 #[.slice A n c, .int .u8 q] w fun e w' => e = .returned (.bool true) ∧ Later w w' := by
  have HB := Lib.hid (begun12_any w hs)
  clear hs
  go_enter Tryz.func6, Tryz.ntmps6
  go_wp2_with fail
  refine HB.out.mono ?_
  rintro e w1 ⟨rfl, l1⟩
  have HL1 := Lib.hid l1
  clear l1 HB
  have hn60 : (60 : Int) < (n : Int) := by omega
  go_wp2_with fail
  go_ret
  exact ⟨rfl, HL1.out⟩

set_option maxRecDepth 100000 in
set_option maxHeartbeats 8000000 in
theorem batchTurns_walk (A : Option Addr) (n c : Nat) (bs : List Nat) (q : Nat) (w : World) (hs : S12 w) (hb : bs.length = n) (hn : n ≤ 60) (hr : Has w A (ints .u8 bs)) (h256 : ∀ x ∈ bs, x < 256) (hq : q < 256) :
    Calls Tryz.prog 6 #[.slice A n c, .int .u8 q] w fun e w' => e = .returned (.bool true) ∧ Later w w' := by
  have HB := Lib.hid (begun12_any w hs)
  have HSS0 := Lib.hid hs
  have HR := Lib.hid hr
  have hc : PkC n bs := ⟨by omega, hb, h256⟩
  have HCC := Lib.hid hc
  clear hr h256 hb hs hc
  go_enter Tryz.func6, Tryz.ntmps6
  go_wp2_with fail
  refine HB.out.mono ?_
  rintro e w1 ⟨rfl, l1⟩
  have HL1 := Lib.hid l1
  have HR1 := Lib.hid (HR.out.later l1)
  obtain ⟨g, hg⟩ : ∃ g, w1.heap.size = g := ⟨_, rfl⟩
  clear l1 HB HR
  have hn60 : ((60 : Int) < (n : Int)) = False := by simp; omega
  go_wp2_with (go_at_call 8; refine (made_any A n c _).mono ?_; rintro e w2 ⟨rfl, hw2⟩)
  have l2 : Later w1 w2 := hw2 ▸ Later.new _ _
  have HPK2 := Lib.hid (show Pks w2 g A n c bs from ⟨⟨0, Nat.zero_le _, hw2 ▸ Blk.new _ _ _ g hg.symm⟩, by
    have h := HR1.out
    rcases h with h | ⟨b, off, hA, hb, hcc⟩
    · exact .inl h
    · exact .inr ⟨b, off, hA, by omega, fun k v hv => l2.cell (hcc k v hv)⟩⟩)
  have HL2 := Lib.hid l2
  have HPK2L := Lib.hid HPK2.out.lt
  have HG0 := Lib.hid hg
  clear l2 hw2 HR1 hg hn60
  refine (schema_any g A n c bs w2 HCC.out HPK2.out).mono ?_
  rintro e w3 ⟨t0, m, ts, V, vc, es, E, ec, d0, d1, d2, rfl, ⟨hm, htl, ht0, hts⟩, ⟨hes, het, hlay⟩, rs⟩
  obtain ⟨cols, hcols⟩ : ∃ x, playCols t0 m ts = x := ⟨_, rfl⟩
  rw [hcols] at rs
  have hcl : cols.length = m + 2 := by rw [← hcols, playCols_len, htl]
  obtain ⟨vn, hvn⟩ : ∃ x, m + 2 = x := ⟨_, rfl⟩
  rw [hvn] at rs hcl
  rw [hvn]
  have hvb : 2 ≤ vn ∧ vn ≤ 4 := by omega
  have HCL := Lib.hid hcl
  have hVX : HasX (some g) w3 V (fc cols) := HasX.own rs.oV fun _ h => by injection h with h; rw [← h]; exact rs.far.1
  have HRS := Lib.hid rs
  obtain ⟨gs, hgs⟩ : ∃ x, w3.heap.size = x := ⟨_, rfl⟩
  have HGG := Lib.hid (show g < gs by rw [← hgs]; exact Nat.lt_of_lt_of_le HPK2.out.lt rs.far.size)
  obtain ⟨w4, hw4⟩ : ∃ x : World, (w3.alloc (.cells #[.slice V vn vc, .int .i64 vn] 32)).alloc (.cells #[.int .i64 d0, .int .i64 d1, .int .i64 d2, .slice E vn ec] 34) = x := ⟨_, rfl⟩
  have l4 : Later w3 w4 := hw4 ▸ (Later.new _ _).alloc _
  have HS4 := Lib.hid (show Blk w4 gs #[.slice V vn vc, .int .i64 vn] 32 from hw4 ▸ (Blk.new w3 _ _ gs hgs.symm).later (Later.new _ _))
  have HGS4 := Lib.hid (show gs < w4.heap.size from HS4.out.lt)
  have hz4 : w4.heap.size = gs + 2 := by rw [← hw4, ← hgs]; simp
  have HP4 := Lib.hid (rs.pk.later l4)
  have HF4 := Lib.hid (rs.far.later l4)
  have HV4 := Lib.hid (hVX.later l4)
  clear hcols hvn hcl l4 HRS rs hts het hlay hes ht0 htl HPK2 hVX
  have s0 := HS4.out.cell 0 _ rfl
  have s1 := HS4.out.cell 1 _ rfl
  obtain ⟨k, hk⟩ : ∃ k, q % 13 = k := ⟨_, rfl⟩
  have hk13 : k < 13 := hk ▸ Nat.mod_lt _ (by omega)
  have hmz : (q : Int) % 13 = (k : Int) := by rw [← hk]; omega
  have hmx : (q : Int).tmod 13 = (k : Int) := by rw [Int.tmod_eq_emod_of_nonneg (by omega)]; exact hmz
  have hwk : IntKind.u8.wrap (k : Int) = (k : Int) := by rw [IntKind.wrap_u8]; omega
  have hwi : IntKind.i64.wrap (k : Int) = (k : Int) := IntWalk.i64_in _ ⟨by omega, by omega⟩
  clear hk
  go_wp2_with fail
  refine (rows_any k g A n c bs V vn vc vn cols w4 HCC.out HP4.out HCL.out.symm (by omega) (by omega) HV4.out).mono ?_
  rintro e w5 ⟨ss, Lr, lc, rfl, hss, hon, hfit, hp5, hf5⟩
  have HON := Lib.hid hon
  have HRA := Lib.hid (hon.at_)
  have HSS := Lib.hid hss
  have HLEN := Lib.hid (fun s hs => ((hfit s hs).2.1.trans HCL.out) : ∀ s ∈ ss, s.l.length = vn)
  have HS5 := Lib.hid (hf5.blk HS4.out (by have := HGG.out; omega))
  have HL5 := Lib.hid (HL1.out.trans ((HF4.out.trans hf5).out HG0.out.symm HL2.out))
  have HZ5 := Lib.hid (show gs < w4.heap.size ∧ w4.heap.size ≤ w5.heap.size ∧ w.heap.size ≤ w4.heap.size from ⟨HGS4.out, hf5.size, Nat.le_trans HL1.out.size (Nat.le_trans HL2.out.size HF4.out.size)⟩)
  clear hss hon hfit hp5 hf5 HP4 HV4 HS4 HF4 s0 s1 hw4 hz4 HGG HPK2L HCC HL1 HL2 HG0 hgs HCL
  have s0 := HS5.out.cell 0 _ rfl
  obtain ⟨L, hL⟩ : ∃ L, ss.map (·.l) = L := ⟨_, rfl⟩
  have HLL := Lib.hid hL
  have HLK := Lib.hid (show L.length = k by rw [← hL, List.length_map, HSS.out])
  have HROW := Lib.hid (show ∀ r ∈ L, r.length = vn from fun r hr => by rw [← hL] at hr; obtain ⟨s, hs, rfl⟩ := List.mem_map.1 hr; exact HLEN.out s hs)
  clear hL
  go_wp2_with fail
  refine (columns_any Lr k lc ss (vn : Int) w5 (HSS0.out.later HL5.out) HSS.out.symm (by omega) HRA.out.1).mono ?_
  intro e w6 h
  rw [HLL.out] at h
  obtain ⟨gc, zs, rfl, hz, hzl, hzr, l6, hgc, hzab⟩ := h.yesX ⟨by omega, fun r hr => by rw [HROW.out r hr]⟩
  have hzn : zs.length = vn := by omega
  rw [hzn] at hzl ⊢
  have HZN := Lib.hid hzn
  have HZL := Lib.hid hzl
  have HZR := Lib.hid hzr
  have HL6 := Lib.hid l6
  have HZAB := Lib.hid (show (∀ b off, (some ⟨gc, 0, none⟩ : Option Addr) = some ⟨b, off, none⟩ → w5.heap.size ≤ b) ∧ ∀ s ∈ zs, ∀ b off, s.a = some ⟨b, off, none⟩ → w5.heap.size ≤ b from ⟨fun b off h => by injection h with h; injection h with h; omega, hzab⟩)
  clear hgc hzab
  have HZLEN := Lib.hid (show ∀ s ∈ zs, s.l.length = k from fun s hs => by
    have h1 : s.l ∈ colsT L vn := by rw [← hzl]; exact List.mem_map.2 ⟨s, hs, rfl⟩
    obtain ⟨i, _, hi⟩ := List.mem_map.1 h1
    rw [← hi, colK_len]; exact HLK.out)
  have s0 := l6.cell s0
  have hvv : ((vn : Int) != (vn : Int)) = false := by simp
  clear h hz hzl hzr l6 hzn
  go_wp2_with fail
  go_loopw [12] (fun iv wr => ∃ j : Nat, j ≤ vn ∧ iv = .int .i64 j ∧ w6 = wr) (fun i _ => vn - (intOf i).toNat)
  case atStart => exact ⟨0, Nat.zero_le _, rfl, rfl⟩
  case round =>
    obtain ⟨j, hj, rfl, rfl⟩ := hrel
    by_cases hjv : j < vn
    · have hjz : j < zs.length := by have := HZN.out; omega
      obtain ⟨zb, zo, hZ, zk, _⟩ := HZR.out.get j hjz
      injection hZ with hZ
      injection hZ with e1 e2
      subst e1 e2
      have hl1 := HZLEN.out _ (List.getElem_mem hjz)
      rw [hl1, Nat.zero_add] at zk
      generalize zs[j].a = za at zk
      generalize zs[j].c = zc at zk
      have hkk : ((k : Int) != (k : Int)) = false := by simp
      clear hl1
      go_wp2_with fail
      go_roundw
      all_goals first
        | exact ⟨j + 1, hjv, by go_num, by first | rfl | trivial⟩
        | (simp [intOf]; omega)
    · go_wp2_with fail
      refine (rest_any none 0 0 k [] _ rfl (by omega) (.inl rfl)).mono ?_
      rintro e w7 ⟨RA, rc, rfl, hra, _, _, _, l7⟩
      have hrest : restL [] k = upto k := by
        unfold restL
        rw [rsg_nil]
        exact List.filter_eq_self.2 fun x _ => by simp
      rw [hrest] at hra ⊢
      rw [upto_len]
      have HP := Lib.hid (pick_any (some ⟨gc, 0, none⟩) RA vn vn k rc zs (upto k) w7 HZN.out.symm (upto_len k).symm (by omega) (by omega) (HZR.out.later l7) (fun s hs => by rw [HZLEN.out s hs]; omega) hra)
      have HL7 := Lib.hid l7
      have s0 := l7.cell s0
      clear hra l7 hrest
      go_wp2_with fail
      refine HP.out.mono ?_
      rintro e w8 ⟨PA, pc, ps, rfl, hps, hpr, _, _, _, l8, hpab⟩
      have HPAB := Lib.hid (show (∀ b off, PA = some ⟨b, off, none⟩ → w5.heap.size ≤ b) ∧ ∀ s ∈ ps, ∀ b off, s.a = some ⟨b, off, none⟩ → w5.heap.size ≤ b from by
        have hz := (HL6.out.trans HL7.out).size
        exact ⟨fun b off h => Nat.le_trans hz (hpab.1 b off h), fun s hs b off h => Nat.le_trans hz (hpab.2 s hs b off h)⟩)
      clear hpab
      have hpz : ps.map (·.l) = colsT L vn := by
        rw [hps, show colsOf zs = colsT L vn from HZL.out]
        exact pick_same L vn k HLK.out
      have hpl : ps.length = vn := by have := congrArg List.length hpz; rw [List.length_map, colsT_len] at this; exact this
      rw [hpl]
      have HPL := Lib.hid hpl
      have HPZ := Lib.hid hpz
      have HPR := Lib.hid hpr
      have HL8 := Lib.hid (HL7.out.trans l8)
      have s0 := l8.cell s0
      have HPLEN := Lib.hid (show ∀ s ∈ ps, s.l.length = k from fun s hs => by
        have h1 : s.l ∈ colsT L vn := by rw [← hpz]; exact List.mem_map.2 ⟨s, hs, rfl⟩
        obtain ⟨i, _, hi⟩ := List.mem_map.1 h1
        rw [← hi, colK_len]; exact HLK.out)
      clear hps hpr hpz hpl l8 HP
      go_wp2_with fail
      refine wp_region_K (S := fun W : World => W.cell? ⟨gs, 0, none⟩ = some (.slice V vn vc)) (R := Later) Later.refl (by kernel_rfl) ?_
      have hS : w8.drew.cell? ⟨gs, 0, none⟩ = some (.slice V vn vc) := (Later.refl w8).drew.cell s0
      have HL9 := Lib.hid (Later.refl w8).drew
      clear s0
      refine wpAnyK_take Later.refl (fun _ _ _ h k => h.trans k) (fun _ _ h k => k.cell h) (i := 0) (oi := { dst := some 71, op := _, type := _, pos := _, after := _, guard := _ }) (v := ?_) rfl (by kernel_rfl) (by kernel_rfl) (by kernel_rfl) (fun _ _ _ h => h) (Or.inl (Or.inl ⟨by rfl, ?_⟩)) hS ?_
      rotate_left
      focus ((intro w hSw; (try dsimp only at hSw); go_simp); (try with_reducible rfl))
      intro wt1 hwq
      replace hS := hwq.cell hS
      have HL9 := Lib.hid (HL9.out.trans hwq)
      clear hwq
      (try simp only [Act.put, List.setIfInBounds_toArray, List.set_cons_zero, List.set_cons_succ])
      refine wpAnyK_take Later.refl (fun _ _ _ h k => h.trans k) (fun _ _ h k => k.cell h) (i := 4) (oi := { dst := some 75, op := _, type := _, pos := _, after := _, guard := _ }) (v := ?_) rfl (by kernel_rfl) (by kernel_rfl) (by kernel_rfl) (fun _ _ _ h => h) (Or.inl (Or.inl ⟨by rfl, ?_⟩)) hS ?_
      rotate_left
      focus ((intro w hSw; (try dsimp only at hSw); go_simp); (try with_reducible rfl))
      intro wt2 hwq
      replace hS := hwq.cell hS
      have HL9 := Lib.hid (HL9.out.trans hwq)
      clear hwq
      (try simp only [Act.put, List.setIfInBounds_toArray, List.set_cons_zero, List.set_cons_succ])
      refine wpAnyK_take Later.refl (fun _ _ _ h k => h.trans k) (fun _ _ h k => k.cell h) (i := 5) (oi := { dst := some 76, op := _, type := _, pos := _, after := _, guard := _ }) (v := ?_) rfl (by kernel_rfl) (by kernel_rfl) (by kernel_rfl) (fun _ _ _ h => h) (Or.inl (Or.inl ⟨by rfl, ?_⟩)) hS ?_
      rotate_left
      focus ((intro w hSw; (try dsimp only at hSw); go_simp); (try with_reducible rfl))
      intro wt3 hwq
      replace hS := hwq.cell hS
      have HL9 := Lib.hid (HL9.out.trans hwq)
      clear hwq
      (try simp only [Act.put, List.setIfInBounds_toArray, List.set_cons_zero, List.set_cons_succ])
      refine wpAnyK_take Later.refl (fun _ _ _ h k => h.trans k) (fun _ _ h k => k.cell h) (i := 6) (oi := { dst := some 77, op := _, type := _, pos := _, after := _, guard := _ }) (v := ?_) rfl (by kernel_rfl) (by kernel_rfl) (by kernel_rfl) (fun _ _ _ h => h) (Or.inl (Or.inl ⟨by rfl, ?_⟩)) hS ?_
      rotate_left
      focus ((intro w hSw; (try dsimp only at hSw); go_simp); (try with_reducible rfl))
      intro wt4 hwq
      replace hS := hwq.cell hS
      have HL9 := Lib.hid (HL9.out.trans hwq)
      clear hwq
      (try simp only [Act.put, List.setIfInBounds_toArray, List.set_cons_zero, List.set_cons_succ])
      refine wpAnyK_all (rs := [1]) (by kernel_rfl) (by simp) (fun i hi => ?_)
      simp only [List.mem_cons, List.not_mem_nil, or_false] at hi
      subst hi
      refine stepK (o := { dst := some 72, op := _, type := _, pos := _, after := _, guard := _ }) rfl (fun K hK => ?_)
      go_simp
      obtain ⟨ga, hga⟩ : ∃ x, wt4.heap.size = x := ⟨_, rfl⟩
      obtain ⟨wa, hwa⟩ : ∃ x, wt4.alloc (.cells #[] 55) = x := ⟨_, rfl⟩
      have la : Later wt4 wa := hwa ▸ Later.new _ _
      try rw [hga]
      rw [hwa]
      replace hS := la.cell hS
      refine hK _ _ hS fun wb lb => ?_
      replace hS := lb.cell hS
      have HL10 := Lib.hid ((HL9.out.trans la).trans lb)
      clear hK hwa hga la lb HL9
      (try simp only [Act.put, List.setIfInBounds_toArray, List.set_cons_zero, List.set_cons_succ])
      refine wpAnyK_all (rs := [2]) (by kernel_rfl) (by simp) (fun i hi => ?_)
      simp only [List.mem_cons, List.not_mem_nil, or_false] at hi
      subst hi
      refine stepK (o := { dst := some 73, op := _, type := _, pos := _, after := _, guard := _ }) rfl (fun K hK => ?_)
      go_simp
      obtain ⟨gl, hgl⟩ : ∃ x, wb.heap.size = x := ⟨_, rfl⟩
      obtain ⟨wl, hwl⟩ : ∃ x, wb.alloc (.cells #[.slice (some ⟨ga, 0, none⟩) 0 0] 27) = x := ⟨_, rfl⟩
      have ll : Later wb wl := hwl ▸ Later.new _ _
      have hlit : Has wl (some ⟨gl, 0, none⟩) [.slice (some ⟨ga, 0, none⟩) 0 0] := hwl ▸ (Blk.new wb [Value.slice (some ⟨ga, 0, none⟩) 0 0].toArray 27 gl hgl.symm).has
      try rw [hgl]
      rw [hwl]
      replace hS := ll.cell hS
      refine hK _ _ hS fun wm lm => ?_
      replace hS := lm.cell hS
      replace hlit := hlit.later lm
      have HL11 := Lib.hid ((HL10.out.trans ll).trans lm)
      clear hK hwl hgl ll lm HL10
      (try simp only [Act.put, List.setIfInBounds_toArray, List.set_cons_zero, List.set_cons_succ])
      have HL12 := Lib.hid (HL6.out.trans (HL8.out.trans HL11.out))
      have HOB := Lib.hid (HON.out.later HL12.out)
      have HSZ := Lib.hid (show w5.heap.size ≤ wm.heap.size from HL12.out.size)
      refine wpAnyK_all (rs := [3]) (by kernel_rfl) (by simp) (fun i hi => ?_)
      simp only [List.mem_cons, List.not_mem_nil, or_false] at hi
      subst hi
      refine stepK (o := { dst := some 74, op := _, type := _, pos := _, after := _, guard := _ }) rfl (fun K hK => ?_)
      refine step_append_k rfl (.tmp 71) (.tmp 73) 22 rfl w4.heap.size 27 _ 1 24 Tryz.underlying22 info_row rfl (by decide) Lr k lc (ss.map SlV.v) rfl HOB.out.2.1 gl 0 1 1 [.slice (some ⟨ga, 0, none⟩) 0 0] rfl hlit rfl (by simp [Value.oneCell']) (by unfold maxLen; omega) (by omega) (by have := HSZ.out; have := HZ5.out; omega) ?_
      rintro A' c' wq ho hgr hbl hat hnl hkp
      have HRN := Lib.hid ((RowsOn.more (s := ⟨some ⟨ga, 0, none⟩, 0, []⟩) HOB.out ⟨.inl rfl, Nat.le_refl _, Nat.zero_le _, by intro h; cases h⟩ ho hgr hat hnl).at_)
      have HRO := Lib.hid (show RowsAt wq Lr ss from ⟨hkp, fun s hs => ⟨(((HOB.out.2.2.1 s hs).grown hgr hat).1.weak), (HOB.out.2.2.1 s hs).2⟩⟩)
      have hown : ∀ q, (Value.slice Lr k lc).ownBlock = some q → q < w5.heap.size := fun q hq => (HON.out.2.1.lt q hq).2
      have HZQ := Lib.hid (RowsAt.past (HZR.out.later (HL8.out.trans HL11.out)) hgr hown HZAB.out.1 HZAB.out.2)
      have HPQ := Lib.hid (RowsAt.past (HPR.out.later HL11.out) hgr hown HPAB.out.1 HPAB.out.2)
      have hS : wq.cell? ⟨gs, 0, none⟩ = some (.slice V vn vc) := (hbl.cell HZ5.out.1).trans hS
      have HLq := Lib.hid (show Later w wq from Later.of ((HL5.out.trans HL12.out).below.trans (hbl.mono HZ5.out.2.2)))
      clear ho hgr hbl hat hnl hkp hlit hown HOB HZR HPR HON
      refine hK _ _ hS fun wr lr => ?_
      replace hS := lr.cell hS
      have HRN := Lib.hid (HRN.out.1.later lr)
      have HRO := Lib.hid (HRO.out.later lr)
      have HZQ := Lib.hid (HZQ.out.later lr)
      have HPQ := Lib.hid (HPQ.out.later lr)
      have HLq := Lib.hid (HLq.out.trans lr)
      clear hK lr
      (try simp only [Act.put, List.setIfInBounds_toArray, List.set_cons_zero, List.set_cons_succ])
      refine wpAnyK_all (rs := [7]) (by kernel_rfl) (by simp) (fun i hi => ?_)
      simp only [List.mem_cons, List.not_mem_nil, or_false] at hi
      subst hi
      refine stepK (o := { dst := some 78, op := _, type := _, pos := _, after := _, guard := _ }) rfl (fun K hK => ?_)
      go_simp
      refine (columns_any A' (k + 1) c' (ss ++ [⟨some ⟨ga, 0, none⟩, 0, []⟩]) (vn : Int) wr (HSS0.out.later HLq.out) (by rw [List.length_append, HSS.out]; rfl) (by omega) HRN.out).mono ?_
      intro e wy h
      obtain ⟨rfl, lz⟩ := h.no (fun hk => by
        have := hk.2 [] (by simp)
        simp at this
        omega)
      refine hK _ _ (lz.cell hS) fun wz ly => ?_
      replace hS := ly.cell (lz.cell hS)
      have HLZ := Lib.hid (lz.trans ly)
      clear hK h lz ly HRN
      (try simp only [Act.put, List.setIfInBounds_toArray, List.set_cons_zero, List.set_cons_succ])
      refine wpAnyK_take Later.refl (fun _ _ _ h k => h.trans k) (fun _ _ h k => k.cell h) (i := 8) (oi := { dst := some 70, op := _, type := _, pos := _, after := _, guard := _ }) (v := ?_) rfl (by kernel_rfl) (by kernel_rfl) (by kernel_rfl) (fun _ _ _ h => h) (Or.inl (Or.inl ⟨by rfl, ?_⟩)) hS ?_
      rotate_left
      focus ((intro w hSw; (try dsimp only at hSw); go_simp); (try with_reducible rfl))
      intro w20 hwq
      replace hS := hwq.cell hS
      have HLZ := Lib.hid (HLZ.out.trans hwq)
      clear hwq
      (try simp only [Act.put, List.setIfInBounds_toArray, List.set_cons_zero, List.set_cons_succ])
      refine wpAnyK_take Later.refl (fun _ _ _ h k => h.trans k) (fun _ _ h k => k.cell h) (i := 9) (oi := { dst := some 79, op := _, type := _, pos := _, after := _, guard := _ }) (v := ?_) rfl (by kernel_rfl) (by kernel_rfl) (by kernel_rfl) (fun _ _ _ h => h) (Or.inl (Or.inl ⟨by rfl, ?_⟩)) hS ?_
      rotate_left
      focus ((intro w hSw; (try dsimp only at hSw); go_simp); (try with_reducible rfl))
      intro w21 hwq
      replace hS := hwq.cell hS
      have HLZ := Lib.hid (HLZ.out.trans hwq)
      clear hwq
      (try simp only [Act.put, List.setIfInBounds_toArray, List.set_cons_zero, List.set_cons_succ])
      refine wpAnyK_take Later.refl (fun _ _ _ h k => h.trans k) (fun _ _ h k => k.cell h) (i := 10) (oi := { dst := some 80, op := _, type := _, pos := _, after := _, guard := _ }) (v := ?_) rfl (by kernel_rfl) (by kernel_rfl) (by kernel_rfl) (fun _ _ _ h => h) (Or.inl (Or.inl ⟨by rfl, ?_⟩)) hS ?_
      rotate_left
      focus ((intro w hSw; (try dsimp only at hSw); go_simp); (try with_reducible rfl))
      intro w22 hwq
      replace hS := hwq.cell hS
      have HLZ := Lib.hid (HLZ.out.trans hwq)
      clear hwq
      (try simp only [Act.put, List.setIfInBounds_toArray, List.set_cons_zero, List.set_cons_succ])
      refine wpAnyK_take Later.refl (fun _ _ _ h k => h.trans k) (fun _ _ h k => k.cell h) (i := 11) (oi := { dst := some 14, op := _, type := _, pos := _, after := _, guard := _ }) (v := ?_) rfl (by kernel_rfl) (by kernel_rfl) (by kernel_rfl) (fun _ _ _ h => h) (Or.inl (Or.inl ⟨by rfl, ?_⟩)) hS ?_
      rotate_left
      focus ((intro w hSw; (try dsimp only at hSw); go_simp); (try with_reducible rfl))
      intro w23 hwq
      replace hS := hwq.cell hS
      have HLZ := Lib.hid (HLZ.out.trans hwq)
      clear hwq
      (try simp only [Act.put, List.setIfInBounds_toArray, List.set_cons_zero, List.set_cons_succ])
      refine wpAnyK_take Later.refl (fun _ _ _ h k => h.trans k) (fun _ _ h k => k.cell h) (i := 12) (oi := { dst := some 15, op := _, type := _, pos := _, after := _, guard := _ }) (v := ?_) rfl (by kernel_rfl) (by kernel_rfl) (by kernel_rfl) (fun _ _ _ h => h) (Or.inl (Or.inl ⟨by rfl, ?_⟩)) hS ?_
      rotate_left
      focus ((intro w hSw; (try dsimp only at hSw); go_simp); (try with_reducible rfl))
      intro w24 hwq
      replace hS := hwq.cell hS
      have HLZ := Lib.hid (HLZ.out.trans hwq)
      clear hwq
      (try simp only [Act.put, List.setIfInBounds_toArray, List.set_cons_zero, List.set_cons_succ])
      refine wpAnyK_done (by kernel_rfl) ?_ _
      have HRO := Lib.hid (HRO.out.later HLZ.out)
      have HZQ := Lib.hid (HZQ.out.later HLZ.out)
      have HPQ := Lib.hid (HPQ.out.later HLZ.out)
      have HLq := Lib.hid (HLq.out.trans HLZ.out)
      have HRC := Lib.hid (rows_cols L vn (by omega) HROW.out)
      clear hS HLZ
      go_wp2_with fail
      have hb := batchRows_any (some ⟨gc, 0, none⟩) vn vn zs w24 HZN.out.symm (by omega) HZQ.out (fun s hs => by rw [HZLEN.out s hs]; omega)
      rw [show colsOf zs = colsT L vn from HZL.out, HRC.out] at hb
      refine hb.mono ?_
      rintro e w25 ⟨A5, c5, rs5, rfl, hr5, hat5, _, _, _, l25⟩
      have hl5 : rs5.length = k := by have := congrArg List.length hr5; rw [List.length_map, HLK.out] at this; exact this
      rw [hl5]
      have HR5 := Lib.hid hr5
      have HA5 := Lib.hid hat5
      have HL25 := Lib.hid l25
      have HLN5 := Lib.hid hl5
      clear hr5 hat5 l25 hl5 hb
      have HLB5 := Lib.hid (show ∀ s ∈ rs5, s.l.length ≤ 1000 from fun s hs => by
        have h1 : s.l ∈ L := by rw [← HR5.out]; exact List.mem_map.2 ⟨s, hs, rfl⟩
        rw [HROW.out _ h1]; omega)
      have HLBS := Lib.hid (show ∀ s ∈ ss, s.l.length ≤ 1000 from fun s hs => by rw [HLEN.out s hs]; omega)
      go_wp2_with fail
      refine (sameRows_any A5 Lr k k c5 lc rs5 ss w25 HLN5.out.symm HSS.out.symm (by omega) (by omega) HA5.out (HRO.out.later HL25.out) HLB5.out HLBS.out).mono ?_
      intro e w26 h
      obtain ⟨rfl, l26⟩ := h.yes (HR5.out.trans HLL.out.symm)
      have HL26 := Lib.hid (HL25.out.trans l26)
      clear h l26 HL25 HA5 HR5 HLN5 HLB5
      go_wp2_with fail
      have hb := batchRows_any PA vn pc ps w26 HPL.out.symm (by omega) (HPQ.out.later HL26.out) (fun s hs => by rw [HPLEN.out s hs]; omega)
      rw [show colsOf ps = colsT L vn from HPZ.out, HRC.out] at hb
      refine hb.mono ?_
      rintro e w27 ⟨A5, c5, rs5, rfl, hr5, hat5, _, _, _, l27⟩
      have hl5 : rs5.length = k := by have := congrArg List.length hr5; rw [List.length_map, HLK.out] at this; exact this
      rw [hl5]
      have HR5 := Lib.hid hr5
      have HA5 := Lib.hid hat5
      have HL27 := Lib.hid (HL26.out.trans l27)
      have HLN5 := Lib.hid hl5
      clear hr5 hat5 l27 hl5 hb
      have HLB5 := Lib.hid (show ∀ s ∈ rs5, s.l.length ≤ 1000 from fun s hs => by
        have h1 : s.l ∈ L := by rw [← HR5.out]; exact List.mem_map.2 ⟨s, hs, rfl⟩
        rw [HROW.out _ h1]; omega)
      go_wp2_with fail
      refine (sameRows_any A5 Lr k k c5 lc rs5 ss w27 HLN5.out.symm HSS.out.symm (by omega) (by omega) HA5.out (HRO.out.later HL27.out) HLB5.out HLBS.out).mono ?_
      intro e w28 h
      obtain ⟨rfl, l28⟩ := h.yes (HR5.out.trans HLL.out.symm)
      have HL28 := Lib.hid (HLq.out.trans (HL27.out.trans l28))
      clear h l28
      go_wp2_with fail
      go_ret
      exact ⟨rfl, HL28.out⟩
end Go.Proofs.YtlfmmhbaphnifaaRRRRGreatDoor
