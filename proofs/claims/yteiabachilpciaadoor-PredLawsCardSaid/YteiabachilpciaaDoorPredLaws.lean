/- The walk of PredLaws. -/
import Derived.Test.YteiabachilpciaaDoorPred0
import Derived.Test.YteiabachilpciaaDoorPredD
import Derived.Test.YteiabachilpciaaDoorPlayQ
import Derived.Test.YteiabachilpciaaDoorPlayO
import Derived.Test.YteiabachilpciaaDoorPredLM
import Derived.Test.YteiabachilpciaaDoorKripke
import Derived.Deep.CutRange
namespace Go.Proofs.YteiabachilpciaaDoor
open Go.RowKit
set_option linter.unusedVariables false

theorem HasX.mk2 {w : World} {b off e : Nat} {xs : List Value} (h : Has w (some ⟨b, off, none⟩) xs) (hne : b ≠ e) : HasX (some e) w (some ⟨b, off, none⟩) xs := by
  rcases h with h | ⟨b', off', hA, hb, hc⟩
  · exact .inl h
  · injection hA with hA; injection hA with e1 e2
    subst e1 e2
    exact .inr ⟨b, off, rfl, hb, (by intro h; injection h with h; exact hne h), hc⟩
/-- The names of a made schema differ. -/
theorem playCols_find (t0 : Int) (m : Nat) (ts : List Int) (hm : m ≤ 2) (hl : ts.length = m) (k : Nat) (hk : k < (playCols t0 m ts).length) : findC (playCols t0 m ts) (playCols t0 m ts)[k].2.1 = some k := by
  refine firstAt hk (by simp) ?_
  intro i hi hik
  rw [playCols_len, hl] at hk hi
  match m, ts, hl with
  | 0, [], _ =>
    obtain ⟨rfl, rfl⟩ : k = 1 ∧ i = 0 := by omega
    rfl
  | 1, [a], _ =>
    obtain ⟨rfl, rfl⟩ | ⟨rfl, rfl⟩ | ⟨rfl, rfl⟩ : (k = 1 ∧ i = 0) ∨ (k = 2 ∧ i = 0) ∨ (k = 2 ∧ i = 1) := by omega
    all_goals rfl
  | 2, [a, b], _ =>
    obtain ⟨rfl, rfl⟩ | ⟨rfl, rfl⟩ | ⟨rfl, rfl⟩ | ⟨rfl, rfl⟩ | ⟨rfl, rfl⟩ | ⟨rfl, rfl⟩ : (k = 1 ∧ i = 0) ∨ (k = 2 ∧ i = 0) ∨ (k = 2 ∧ i = 1) ∨ (k = 3 ∧ i = 0) ∨ (k = 3 ∧ i = 1) ∨ (k = 3 ∧ i = 2) := by omega
    all_goals rfl
set_option maxRecDepth 100000 in
theorem predLaws_long (A : Option Addr) (n c : Nat) (A2 : Option Addr) (n2 c2 : Nat) (w : World) (hg : ErrT w) (hs : S3 w) (hn : 100 < n ∨ 60 < n2) :
    Calls Tryd.prog 4 #[.slice A n c, .slice A2 n2 c2] w fun e w' => e = .returned (.bool true) ∧ Later w w' := by
  have HB := Lib.hid (begun23_any w hg hs)
  have HN := Lib.hid hn
  clear hg hs hn
  go_enter Tryd.func4, Tryd.ntmps4
  go_wp2_with fail
  refine HB.out.mono ?_
  rintro e w1 ⟨rfl, l1⟩
  have HL1 := Lib.hid l1
  clear l1 HB
  by_cases h1 : 100 < n
  · have hn100 : (100 : Int) < (n : Int) := by omega
    go_wp2_with fail
    go_ret
    exact ⟨rfl, HL1.out⟩
  · have h2 : 60 < n2 := HN.out.resolve_left h1
    have hn100 : ¬ (100 : Int) < (n : Int) := by omega
    have hn60 : (60 : Int) < (n2 : Int) := by omega
    go_wp2_with fail
    go_ret
    exact ⟨rfl, HL1.out⟩

set_option maxRecDepth 100000 in
set_option maxHeartbeats 8000000 in
theorem predLaws_walk (A : Option Addr) (n c : Nat) (bs : List Nat) (A2 : Option Addr) (n2 c2 : Nat) (bs2 : List Nat) (w : World) (hg : ErrT w) (hs : S3 w) (hb : bs.length = n) (hn : n ≤ 100) (hr : Has w A (ints .u8 bs)) (h256 : ∀ x ∈ bs, x < 256) (hb2 : bs2.length = n2) (hn2 : n2 ≤ 60) (hr2 : Has w A2 (ints .u8 bs2)) (h256' : ∀ x ∈ bs2, x < 256) :
    Calls Tryd.prog 4 #[.slice A n c, .slice A2 n2 c2] w fun e w' => e = .returned (.bool true) ∧ Later w w' := by
  have HC2 := Lib.hid (⟨by omega, hb2, h256'⟩ : PkC n2 bs2)
  have HR2 := Lib.hid hr2
  clear hb2 h256' hr2
  have HB := Lib.hid (begun23_any w hg hs)
  have HR := Lib.hid hr
  have hc : PkC n bs := ⟨by omega, hb, h256⟩
  have HCC := Lib.hid hc
  clear hr h256 hb hg hs hc
  go_enter Tryd.func4, Tryd.ntmps4
  go_wp2_with fail
  refine HB.out.mono ?_
  rintro e w1 ⟨rfl, l1⟩
  have HL1 := Lib.hid l1
  have HR1 := Lib.hid (HR.out.later l1)
  obtain ⟨g, hg⟩ : ∃ g, w1.heap.size = g := ⟨_, rfl⟩
  clear l1 HB HR
  have hn100 : ((100 : Int) < (n : Int)) = False := by simp; omega
  have hn60 : ((60 : Int) < (n2 : Int)) = False := by simp; omega
  go_wp2_with (go_at_call 8; refine (made_any A n c _).mono ?_; rintro e w2 ⟨rfl, hw2⟩)
  have l2 : Later w1 w2 := hw2 ▸ Later.new _ _
  have HPK2 := Lib.hid (show Pks w2 g A n c bs from ⟨⟨0, Nat.zero_le _, hw2 ▸ Blk.new _ _ _ g hg.symm⟩, by
    have h := HR1.out
    rcases h with h | ⟨b, off, hA, hb, hcc⟩
    · exact .inl h
    · exact .inr ⟨b, off, hA, by omega, fun k v hv => l2.cell (hcc k v hv)⟩⟩)
  have HL2 := Lib.hid l2
  have HPK2L := Lib.hid HPK2.out.lt
  have HG0 := Lib.hid hg
  clear l2 hw2 HR1 hg hn60 hn100
  refine (schema_any g A n c bs w2 HCC.out HPK2.out).mono ?_
  rintro e w3 ⟨t0, m, ts, V, vc, es, E, ec, d0, d1, d2, rfl, ⟨hm, htl, ht0, hts⟩, ⟨hes, het, hlay⟩, rs⟩
  obtain ⟨cols, hcols⟩ : ∃ x, playCols t0 m ts = x := ⟨_, rfl⟩
  rw [hcols] at rs
  have hcl : cols.length = m + 2 := by rw [← hcols, playCols_len, htl]
  have HFC := Lib.hid (by subst hcols; exact playCols_find t0 m ts hm htl : ∀ k (hk : k < cols.length), findC cols cols[k].2.1 = some k)
  obtain ⟨vn, hvn⟩ : ∃ x, m + 2 = x := ⟨_, rfl⟩
  rw [hvn] at rs hcl
  rw [hvn]
  have hvb : 2 ≤ vn ∧ vn ≤ 4 := by omega
  have HCL := Lib.hid hcl
  obtain ⟨L, hL⟩ : ∃ x : Int, ((vn : Nat) : Int) = x := ⟨_, rfl⟩
  have HLL := Lib.hid hL
  have hVB : Has w3 V (fc cols) := (HasX.own rs.oV (o := none) (fun _ h => by cases h)).has
  have hVX : HasX (some g) w3 V (fc cols) := HasX.own rs.oV fun _ h => by injection h with h; rw [← h]; exact rs.far.1
  have HRS := Lib.hid rs
  obtain ⟨gs, hgs⟩ : ∃ x, w3.heap.size = x := ⟨_, rfl⟩
  have HGG := Lib.hid (show g < gs by rw [← hgs]; exact Nat.lt_of_lt_of_le HPK2.out.lt rs.far.size)
  obtain ⟨w4, hw4⟩ : ∃ x : World, (w3.alloc (.cells #[.slice V vn vc, .int .i64 vn] 33)).alloc (.cells #[.int .i64 d0, .int .i64 d1, .int .i64 d2, .slice E vn ec] 36) = x := ⟨_, rfl⟩
  have l4 : Later w3 w4 := hw4 ▸ (Later.new _ _).alloc _
  have HS4 := Lib.hid (show Blk w4 gs #[.slice V vn vc, .int .i64 vn] 33 from hw4 ▸ (Blk.new w3 _ _ gs hgs.symm).later (Later.new _ _))
  have hz4 : w4.heap.size = gs + 2 := by rw [← hw4, ← hgs]; simp
  have HP4 := Lib.hid (rs.pk.later l4)
  have HF4 := Lib.hid (rs.far.later l4)
  have HV4 := Lib.hid (hVX.later l4)
  clear hcols hvn hL hcl l4 HRS rs hts het hlay hes ht0 htl HPK2 hVB hVX
  have s0 := HS4.out.cell 0 _ rfl
  have s1 := HS4.out.cell 1 _ rfl
  go_wp2_with fail
  refine (rows_any 15 g A n c bs V vn vc vn cols w4 HCC.out HP4.out HCL.out.symm (by omega) (by omega) HV4.out).mono ?_
  rintro e w5 ⟨ss, Lr, lc, rfl, hss, hon, hfit, hp5, hf5⟩
  have HRA := Lib.hid (hon.at_)
  have HSS := Lib.hid hss
  have HFIT := Lib.hid hfit
  have HV5 := Lib.hid (HV4.out.far hf5).has
  have HS5 := Lib.hid (hf5.blk HS4.out (by have := HGG.out; omega))
  have HL5 := Lib.hid (HL1.out.trans ((HF4.out.trans hf5).out HG0.out.symm HL2.out))
  have HR25 := Lib.hid (HR2.out.later HL5.out)
  clear hss hon hfit hp5 hf5 HP4 HV4 HS4 HF4 s0 s1 hw4 hz4 HGG HPK2L HCC HR2 HL1 HL2 HG0 hgs
  go_wp2_with fail
  refine wp_region_Z (S := (fun W : World => Later w5 W)) 5 (by kernel_rfl) ?_
  have hS : (fun W : World => Later w5 W) w5.drew := (Later.refl w5).drew
  obtain ⟨we, hwe⟩ : ∃ x, w5.drew = x := ⟨_, rfl⟩
  rw [hwe] at hS ⊢
  clear hwe
  refine wpAnyZ_take (i := 0) (oi := { dst := some 39, op := _, type := _, pos := _, after := _, guard := _ }) (v := ?_) rfl (by kernel_rfl) (by kernel_rfl) (by kernel_rfl) (by kernel_rfl) (fun _ _ _ h => h) (Or.inl ⟨by rfl, ?_⟩) hS ?_
  rotate_left
  focus ((intro w hSw; (try dsimp only at hSw); have d0 := (HS5.out.later hSw).cell 0 _ rfl; have d1 := (HS5.out.later hSw).cell 1 _ rfl; go_simp); (try with_reducible rfl))
  (try simp only [Act.put, List.setIfInBounds_toArray, List.set_cons_zero, List.set_cons_succ])
  refine wpAnyZ_take (i := 2) (oi := { dst := some 41, op := _, type := _, pos := _, after := _, guard := _ }) (v := ?_) rfl (by kernel_rfl) (by kernel_rfl) (by kernel_rfl) (by kernel_rfl) (fun _ _ _ h => h) (Or.inl ⟨by rfl, ?_⟩) hS ?_
  rotate_left
  focus ((intro w hSw; (try dsimp only at hSw); have d0 := (HS5.out.later hSw).cell 0 _ rfl; have d1 := (HS5.out.later hSw).cell 1 _ rfl; go_simp); (try with_reducible rfl))
  (try simp only [Act.put, List.setIfInBounds_toArray, List.set_cons_zero, List.set_cons_succ])
  refine wpAnyZ_all (rs := [1]) (by kernel_rfl) (by simp) (fun i hi => ?_)
  simp only [List.mem_cons, List.not_mem_nil, or_false] at hi
  subst hi
  refine stepZ (o := { dst := some 40, op := _, type := _, pos := _, after := _, guard := _ }) rfl (fun K hK => ?_)
  go_simp
  obtain ⟨g2, hg2⟩ : ∃ x, we.heap.size = x := ⟨_, rfl⟩
  refine (made_any A2 n2 c2 we).mono ?_
  rintro e wf ⟨rfl, hwf⟩
  rw [hg2]
  have lf : Later we wf := hwf ▸ Later.new _ _
  have HPQ := Lib.hid (show Pks wf g2 A2 n2 c2 bs2 from ⟨⟨0, Nat.zero_le _, hwf ▸ Blk.new _ _ _ g2 hg2.symm⟩, by
    have h := HR25.out
    rcases h with h | ⟨b, off, hA, hb, hcc⟩
    · exact .inl h
    · exact .inr ⟨b, off, hA, by have := Later.size hS; omega, fun k v hv => (Later.trans hS lf).cell (hcc k v hv)⟩⟩)
  have HQB := Lib.hid (show w5.heap.size ≤ g2 by rw [← hg2]; exact Later.size hS)
  have HLF := Lib.hid lf
  have HLE := Lib.hid (show Later w5 we from hS)
  have hS : (fun W : World => Later w5 W) wf := Later.trans hS lf
  refine hK _ _ hS ?_
  clear hK lf hwf
  (try simp only [Act.put, List.setIfInBounds_toArray, List.set_cons_zero, List.set_cons_succ])
  refine wpAnyZ_all (rs := [3]) (by kernel_rfl) (by simp) (fun i hi => ?_)
  simp only [List.mem_cons, List.not_mem_nil, or_false] at hi
  subst hi
  refine stepZ (o := { dst := some 42, op := _, type := _, pos := _, after := _, guard := _ }) rfl (fun K hK => ?_)
  go_simp
  refine (query_any g2 A2 n2 c2 bs2 V vn vc vn cols wf HC2.out HPQ.out HCL.out.symm (by omega) (by
    rcases HV5.out with h | ⟨b, off, hA, hb, hcc⟩
    · exact .inl h
    · exact .inr ⟨b, off, hA, Nat.lt_of_lt_of_le hb (Later.size hS), (by intro e; injection e with e; have := HQB.out; omega), fun k v hv => Later.cell hS (hcc k v hv)⟩)).mono ?_
  rintro e wg ⟨C, cn, cc, ns, T, tn, tc, l, G, gn, gc, ag, Kk, kn, kc, ky, z, rfl, -, ⟨⟨htn, htb⟩, hft, htc⟩, -, -, -, qe⟩
  have HTN := Lib.hid htn
  have HTO := Lib.hid qe.oT
  have HTC := Lib.hid htc
  have HTA := Lib.hid ((HasX.own qe.oT (o := none) (fun _ h => by cases h)).has)
  have hS : (fun W : World => Later w5 W) wg := Later.trans HLE.out (qe.far.out hg2.symm HLF.out)
  refine hK _ _ hS ?_
  clear hK qe hft htn htc HPQ HLF HLE
  (try simp only [Act.put, List.setIfInBounds_toArray, List.set_cons_zero, List.set_cons_succ])
  have hfd : ∀ w : World, (Instr.field 45 (.agg #[.slice C cn cc, .slice T tn tc, .slice G gn gc, .slice Kk kn kc, .int .i64 z]) 1).run Tryd.prog w = .ok (.slice T tn tc) w := fun _ => by kernel_rfl
  refine wpAnyZ_take (i := 4) (oi := { dst := some 43, op := _, type := _, pos := _, after := _, guard := _ }) (v := ?_) rfl (by kernel_rfl) (by kernel_rfl) (by kernel_rfl) (by kernel_rfl) (fun _ _ _ h => h) (Or.inl ⟨by rfl, ?_⟩) hS ?_
  rotate_left
  focus ((intro w hSw; (try dsimp only at hSw); have d0 := (HS5.out.later hSw).cell 0 _ rfl; have d1 := (HS5.out.later hSw).cell 1 _ rfl; go_simp); (try with_reducible rfl))
  (try simp only [Act.put, List.setIfInBounds_toArray, List.set_cons_zero, List.set_cons_succ])
  clear hfd
  refine wpAnyZ_all (rs := [5]) (by kernel_rfl) (by simp) (fun i hi => ?_)
  simp only [List.mem_cons, List.not_mem_nil, or_false] at hi
  subst hi
  refine stepZl (o := { dst := some 9, op := _, type := _, pos := _, after := _, guard := _ }) rfl (fun K hK => ?_)
  go_simp
  refine hK _ _ ?_
  clear hK
  (try simp only [Act.put, List.setIfInBounds_toArray, List.set_cons_zero, List.set_cons_succ])
  refine wpAnyZ_done (by kernel_rfl) ?_ _
  have HLG := Lib.hid (show Later w5 wg from hS)
  clear hS
  obtain ⟨lr, loff, hLr, _⟩ := HRA.out.1.get 0 (by have := HSS.out; omega)
  subst hLr
  have HROW := Lib.hid (fun W (f : Later w5 W) i (hi : i < 15) => by
    have hi' : i < ss.length := by have := HSS.out; omega
    obtain ⟨b', off', hA', cc', hh', _, _, _⟩ := (HRA.out.1.later f).get i hi'
    injection hA' with hA'; injection hA' with e1 e2
    subst e1 e2
    have hle := (HFIT.out ss[i] (List.getElem_mem hi')).2.1
    exact ⟨ss[i].a, ss[i].c, ss[i].l, by rw [hle.trans HCL.out] at cc'; exact cc', hle.trans HCL.out, hh'⟩ : ∀ W, Later w5 W → ∀ i, i < 15 → ∃ Ra rc row, W.cell? ⟨lr, loff + i, none⟩ = some (.slice Ra vn rc) ∧ row.length = vn ∧ Has W Ra (fl row))
  by_cases ht0 : tn = 0
  · subst ht0
    have s0 := (HS5.out.later HLG.out).cell 0 _ rfl
    have s1 := (HS5.out.later HLG.out).cell 1 _ rfl
    go_wp2_with fail
    clear s0 s1
    have hS : (fun W : World => Later wg W) wg := Later.refl _
    obtain ⟨Ra, rc, row, hrc, hrl, hrh⟩ := HROW.out wg HLG.out 0 (by omega)
    rw [Nat.add_zero] at hrc
    have HRC := Lib.hid hrc
    have HRH := Lib.hid hrh
    have HRL := Lib.hid hrl
    clear hrc hrh hrl
    refine wp_region_Z (S := (fun W : World => Later wg W)) 6 (by kernel_rfl) ?_
    have hS : (fun W : World => Later wg W) (wg).drew := Later.trans hS (Later.refl _).drew
    obtain ⟨wd, hwd⟩ : ∃ x, (wg).drew = x := ⟨_, rfl⟩
    rw [hwd] at hS ⊢
    clear hwd
    refine wpAnyZ_take (i := 0) (oi := { dst := some 47, op := _, type := _, pos := _, after := _, guard := _ }) (v := ?_) rfl (by kernel_rfl) (by kernel_rfl) (by kernel_rfl) (by kernel_rfl) (fun _ _ _ h => h) (Or.inl ⟨by rfl, ?_⟩) hS ?_
    rotate_left
    focus ((intro w hSw; (try dsimp only at hSw); have d0 := (HS5.out.later (HLG.out.trans hSw)).cell 0 _ rfl; have d1 := (HS5.out.later (HLG.out.trans hSw)).cell 1 _ rfl; have d2 := Later.cell hSw HRC.out; go_simp); (try with_reducible rfl))
    (try simp only [Act.put, List.setIfInBounds_toArray, List.set_cons_zero, List.set_cons_succ])
    refine wpAnyZ_take (i := 1) (oi := { dst := some 48, op := _, type := _, pos := _, after := _, guard := _ }) (v := ?_) rfl (by kernel_rfl) (by kernel_rfl) (by kernel_rfl) (by kernel_rfl) (fun _ _ _ h => h) (Or.inl ⟨by rfl, ?_⟩) hS ?_
    rotate_left
    focus ((intro w hSw; (try dsimp only at hSw); have d0 := (HS5.out.later (HLG.out.trans hSw)).cell 0 _ rfl; have d1 := (HS5.out.later (HLG.out.trans hSw)).cell 1 _ rfl; have d2 := Later.cell hSw HRC.out; go_simp); (try with_reducible rfl))
    (try simp only [Act.put, List.setIfInBounds_toArray, List.set_cons_zero, List.set_cons_succ])
    refine wpAnyZ_take (i := 2) (oi := { dst := some 49, op := _, type := _, pos := _, after := _, guard := _ }) (v := ?_) rfl (by kernel_rfl) (by kernel_rfl) (by kernel_rfl) (by kernel_rfl) (fun _ _ _ h => h) (Or.inl ⟨by rfl, ?_⟩) hS ?_
    rotate_left
    focus ((intro w hSw; (try dsimp only at hSw); have d0 := (HS5.out.later (HLG.out.trans hSw)).cell 0 _ rfl; have d1 := (HS5.out.later (HLG.out.trans hSw)).cell 1 _ rfl; have d2 := Later.cell hSw HRC.out; go_simp); (try with_reducible rfl))
    (try simp only [Act.put, List.setIfInBounds_toArray, List.set_cons_zero, List.set_cons_succ])
    refine wpAnyZ_take (i := 3) (oi := { dst := some 50, op := _, type := _, pos := _, after := _, guard := _ }) (v := ?_) rfl (by kernel_rfl) (by kernel_rfl) (by kernel_rfl) (by kernel_rfl) (fun _ _ _ h => h) (Or.inl ⟨by rfl, ?_⟩) hS ?_
    rotate_left
    focus ((intro w hSw; (try dsimp only at hSw); have d0 := (HS5.out.later (HLG.out.trans hSw)).cell 0 _ rfl; have d1 := (HS5.out.later (HLG.out.trans hSw)).cell 1 _ rfl; have d2 := Later.cell hSw HRC.out; go_simp); (try with_reducible rfl))
    (try simp only [Act.put, List.setIfInBounds_toArray, List.set_cons_zero, List.set_cons_succ])
    refine wpAnyZ_all (rs := [4]) (by kernel_rfl) (by simp) (fun i hi => ?_)
    simp only [List.mem_cons, List.not_mem_nil, or_false] at hi
    subst hi
    refine stepZ (o := { dst := some 51, op := _, type := _, pos := _, after := _, guard := _ }) rfl (fun K hK => ?_)
    go_simp
    refine (predRow_any V vn vc vn cols none 0 0 [] Ra vn rc row wd HCL.out.symm (by omega) (HV5.out.later (HLG.out.trans hS)) rfl (by omega) (.inl rfl) HRL.out.symm (by omega) (HRH.out.later hS)).mono ?_
    rintro e wh ⟨rfl, lh⟩
    rw [rowT_nil]
    have hS : (fun W : World => Later wg W) wh := Later.trans hS lh
    refine hK _ _ hS ?_
    clear hK lh
    (try simp only [Act.put, List.setIfInBounds_toArray, List.set_cons_zero, List.set_cons_succ])
    refine wpAnyZ_take (i := 5) (oi := { dst := some 52, op := _, type := _, pos := _, after := _, guard := _ }) (v := ?_) rfl (by kernel_rfl) (by kernel_rfl) (by kernel_rfl) (by kernel_rfl) (fun _ _ _ h => h) (Or.inl ⟨by rfl, ?_⟩) hS ?_
    rotate_left
    focus ((intro w hSw; (try dsimp only at hSw); have d0 := (HS5.out.later (HLG.out.trans hSw)).cell 0 _ rfl; have d1 := (HS5.out.later (HLG.out.trans hSw)).cell 1 _ rfl; have d2 := Later.cell hSw HRC.out; go_simp); (try with_reducible rfl))
    (try simp only [Act.put, List.setIfInBounds_toArray, List.set_cons_zero, List.set_cons_succ])
    refine wpAnyZ_all (rs := [6]) (by kernel_rfl) (by simp) (fun i hi => ?_)
    simp only [List.mem_cons, List.not_mem_nil, or_false] at hi
    subst hi
    refine stepZl (o := { dst := some 4, op := _, type := _, pos := _, after := _, guard := _ }) rfl (fun K hK => ?_)
    go_simp
    refine hK _ _ ?_
    clear hK
    (try simp only [Act.put, List.setIfInBounds_toArray, List.set_cons_zero, List.set_cons_succ])
    refine wpAnyZ_done (by kernel_rfl) ?_ _
    go_wp2_with fail
    go_ret
    exact ⟨rfl, (HL5.out.trans HLG.out).trans hS⟩
  · have htf : ((tn : Int) == 0) = false := by rw [beq_eq_false_iff_ne]; omega
    obtain ⟨tb, toff, hTA, T0⟩ := HTA.out.tst (tn - 1) (by have := HTN.out; omega)
    subst hTA
    obtain ⟨t, ht⟩ : ∃ x, l[tn - 1]'(by have := HTN.out; omega) = x := ⟨_, rfl⟩
    have HLT := Lib.hid ht
    rw [ht] at T0
    clear ht
    obtain ⟨nm, op, ⟨vt, vi, vs⟩, o, nt⟩ := t
    obtain ⟨t0, t1, t2, t3, t4, t5, t6⟩ := T0
    have t0 := t0.out; have t1 := t1.out; have t2 := t2.out; have t3 := t3.out; have t4 := t4.out; have t5 := t5.out; have t6 := t6.out
    dsimp only at t0 t1 t2 t3 t4 t5 t6
    have hdec : (tn : Int) - 1 = ((tn - 1 : Nat) : Int) := by omega
    obtain ⟨k1, hk1⟩ : ∃ x, tn - 1 = x := ⟨_, rfl⟩
    rw [hk1] at hdec t0 t1 t2 t3 t4 t5 t6
    have hk1l : (k1 : Int) < (tn : Int) := by omega
    have hk10 : (0 : Int) ≤ (k1 : Int) := by omega
    have hwk1 : IntKind.i64.wrap (k1 : Int) = (k1 : Int) := IntWalk.i64_in _ ⟨by omega, by omega⟩
    obtain ⟨b1, hb1⟩ : ∃ x, wg.heap.size = x := ⟨_, rfl⟩
    have HB1 := Lib.hid hb1
    obtain ⟨wa, hwa⟩ : ∃ x, wg.alloc (.cells (tcs nm op vt vi vs o nt) 28) = x := ⟨_, rfl⟩
    have A1 : Blk wa b1 (tcs nm op vt vi vs o nt) 28 := hwa ▸ Blk.new _ _ _ _ hb1.symm
    have hza : wa.heap.size = b1 + 1 := by rw [← hwa, ← hb1]; simp
    have L1 : Later wg wa := hwa ▸ Later.new _ _
    have p0 := A1.cell 0 _ rfl
    have p1 := A1.cell 1 _ rfl
    have p2 := A1.cell 2 _ rfl
    have p3 := A1.cell 3 _ rfl
    have p4 := A1.cell 4 _ rfl
    have p5 := A1.cell 5 _ rfl
    have p6 := A1.cell 6 _ rfl
    obtain ⟨wb, hwb⟩ : ∃ x, wa.alloc (.cells (tcs nm op vt vi vs o nt) 28) = x := ⟨_, rfl⟩
    have A2 : Blk wb (b1 + 1) (tcs nm op vt vi vs o nt) 28 := hwb ▸ Blk.new _ _ _ _ hza.symm
    have A1 : Blk wb b1 (tcs nm op vt vi vs o nt) 28 := A1.later (hwb ▸ Later.new _ _)
    have hzb : wb.heap.size = b1 + 2 := by rw [← hwb]; simp [hza]
    have L1 : Later wg wb := L1.trans (hwb ▸ Later.new _ _)
    have q6 := A1.cell 6 _ rfl
    have x6 := A2.cell 6 _ rfl
    have y6 := A2.frozen 6
    have A2 := A2.set_ 6 (.bool (!nt))
    have A1 := A1.off (p := ⟨b1 + 1, 6, none⟩) (by show b1 ≠ b1 + 1; omega) (.bool (!nt))
    have L1 := L1.set_ (p := ⟨b1 + 1, 6, none⟩) (by show wg.heap.size ≤ b1 + 1; omega) (.bool (!nt))
    obtain ⟨wc, hwc⟩ : ∃ x, wb.setCell ⟨b1 + 1, 6, none⟩ (.bool (!nt)) = x := ⟨_, rfl⟩
    have hzc : wc.heap.size = b1 + 2 := by rw [← hwc, ← hzb]; simp [World.setCell]
    rw [hwc] at A2 A1 L1
    have x5 := A1.cell 5 _ rfl
    have y5 := A1.frozen 5
    have A1 := A1.set_ 5 (.bool false)
    have A2 := A2.off (p := ⟨b1, 5, none⟩) (by show b1 + 1 ≠ b1; omega) (.bool false)
    have L1 := L1.set_ (p := ⟨b1, 5, none⟩) (by show wg.heap.size ≤ b1; omega) (.bool false)
    obtain ⟨wd, hwd⟩ : ∃ x, wc.setCell ⟨b1, 5, none⟩ (.bool false) = x := ⟨_, rfl⟩
    have hzd : wd.heap.size = b1 + 2 := by rw [← hwd, ← hzc]; simp [World.setCell]
    rw [hwd] at A2 A1 L1
    have z5 := A2.cell 5 _ rfl
    have v5 := A2.frozen 5
    have A2 := A2.set_ 5 (.bool false)
    have A1 := A1.off (p := ⟨b1 + 1, 5, none⟩) (by show b1 ≠ b1 + 1; omega) (.bool false)
    have L1 := L1.set_ (p := ⟨b1 + 1, 5, none⟩) (by show wg.heap.size ≤ b1 + 1; omega) (.bool false)
    obtain ⟨we_, hwe⟩ : ∃ x, wd.setCell ⟨b1 + 1, 5, none⟩ (.bool false) = x := ⟨_, rfl⟩
    have hze : we_.heap.size = b1 + 2 := by rw [← hwe, ← hzd]; simp [World.setCell]
    rw [hwe] at A2 A1 L1
    have A1 : Blk we_ b1 (tcs nm op vt vi vs false nt) 28 := A1
    have A2 : Blk we_ (b1 + 1) (tcs nm op vt vi vs false (!nt)) 28 := A2
    have r0 := A1.cell 0 _ rfl
    have r1 := A1.cell 1 _ rfl
    have r2 := A1.cell 2 _ rfl
    have r3 := A1.cell 3 _ rfl
    have r4 := A1.cell 4 _ rfl
    have r5 := A1.cell 5 _ rfl
    have r6 := A1.cell 6 _ rfl
    obtain ⟨wf_, hwf⟩ : ∃ x, we_.alloc (.cells (tcs nm op vt vi vs false nt) 28) = x := ⟨_, rfl⟩
    have A3 : Blk wf_ (b1 + 2) (tcs nm op vt vi vs false nt) 28 := hwf ▸ Blk.new _ _ _ _ hze.symm
    have A1 := A1.later (show Later we_ wf_ from hwf ▸ Later.new _ _)
    have A2 := A2.later (show Later we_ wf_ from hwf ▸ Later.new _ _)
    have L1 : Later wg wf_ := L1.trans (hwf ▸ Later.new _ _)
    have w5 := A3.cell 5 _ rfl
    have u5 := A3.frozen 5
    have A3 := A3.set_ 5 (.bool true)
    have A1 := A1.off (p := ⟨b1 + 2, 5, none⟩) (by show b1 ≠ b1 + 2; omega) (.bool true)
    have A2 := A2.off (p := ⟨b1 + 2, 5, none⟩) (by show b1 + 1 ≠ b1 + 2; omega) (.bool true)
    have L1 := L1.set_ (p := ⟨b1 + 2, 5, none⟩) (by show wg.heap.size ≤ b1 + 2; omega) (.bool true)
    obtain ⟨wo, hwo⟩ : ∃ x, wf_.setCell ⟨b1 + 2, 5, none⟩ (.bool true) = x := ⟨_, rfl⟩
    rw [hwo] at A3 A2 A1 L1
    have HA1 := Lib.hid A1
    have HA2 := Lib.hid A2
    have HA3 := Lib.hid (show Blk wo (b1 + 2) (tcs nm op vt vi vs true nt) 28 from A3)
    have HLO := Lib.hid L1
    clear A1 A2 A3 L1
    go_wp2_with fail
    clear hwa hwb hwc hwd hwe hwf hwo p0 p1 p2 p3 p4 p5 p6 q6 x6 y6 x5 y5 z5 v5 r0 r1 r2 r3 r4 r5 r6 w5 u5 t0 t1 t2 t3 t4 t5 t6
    have HAT := Lib.hid (HTA.out)
    go_loopw [13] (fun iv wr => ∃ i : Nat, i ≤ 15 ∧ iv = .int .i64 i ∧ Later wo wr) (fun i _ => 15 - (intOf i).toNat)
    case atStart => exact ⟨0, by omega, rfl, Later.refl _⟩
    case round =>
      obtain ⟨i, hi, rfl, lat⟩ := hrel
      have HLW := Lib.hid ((HLG.out.trans HLO.out).trans lat)
      have HLA := Lib.hid lat
      by_cases hlt : i < 15
      · have hil : (i : Int) < 15 := by omega
        have hi0 : (0 : Int) ≤ (i : Int) := by omega
        obtain ⟨Ra, rc, row, hrc, hrl, hrh⟩ := HROW.out wr HLW.out i hlt
        have HRC := Lib.hid hrc
        have HRH := Lib.hid hrh
        have HRL := Lib.hid hrl
        have HPRW := Lib.hid (fun (ls : List Tst) (T : Option Addr) (m c : Nat) (W : World) (f : Later wr W) (hm : m = ls.length) (hm2 : m ≤ 100) (hT : Has W T (ft ls)) => predRow_any V vn vc vn cols T m c ls Ra vn rc row W HCL.out.symm (by omega) (HV5.out.later (HLW.out.trans f)) hm (by omega) hT HRL.out.symm (by omega) (HRH.out.later f))
        have HD0 := Lib.hid (fun W (f : Later wr W) => (HS5.out.later (HLW.out.trans f)).cell 0 _ rfl : ∀ W, Later wr W → W.cell? ⟨gs, 0, none⟩ = some (.slice V vn vc))
        have HD1 := Lib.hid (fun W (f : Later wr W) => (HS5.out.later (HLW.out.trans f)).cell 1 _ rfl : ∀ W, Later wr W → W.cell? ⟨gs, 1, none⟩ = some (.int .i64 vn))
        have HD2 := Lib.hid (fun W (f : Later wr W) => Later.cell f HRC.out : ∀ W, Later wr W → W.cell? ⟨lr, loff + i, none⟩ = some (.slice Ra vn rc))
        obtain ⟨a, ha⟩ : ∃ x, rowT cols [⟨nm, op, (vt, vi, vs), false, nt⟩] row = x := ⟨_, rfl⟩
        obtain ⟨b, hb⟩ : ∃ x, rowT cols [⟨nm, op, (vt, vi, vs), false, !nt⟩] row = x := ⟨_, rfl⟩
        obtain ⟨x, hx⟩ : ∃ x, rowT cols l row = x := ⟨_, rfl⟩
        obtain ⟨y, hy⟩ : ∃ x, rowT cols (l ++ [⟨nm, op, (vt, vi, vs), false, nt⟩]) row = x := ⟨_, rfl⟩
        obtain ⟨z, hz⟩ : ∃ x, rowT cols (l ++ [⟨nm, op, (vt, vi, vs), true, nt⟩]) row = x := ⟨_, rfl⟩
        obtain ⟨u, hu⟩ : ∃ x, rowT cols [⟨nm, op, (vt, vi, vs), false, nt⟩, ⟨nm, op, (vt, vi, vs), false, !nt⟩] row = x := ⟨_, rfl⟩
        have hoa : oneT cols row ⟨nm, op, (vt, vi, vs), false, nt⟩ = a := by rw [← ha, rowT_1 _ _ _ rfl]
        have hob : oneT cols row ⟨nm, op, (vt, vi, vs), false, !nt⟩ = b := by rw [← hb, rowT_1 _ _ _ rfl]
        have hab : a + b = 2 := by
          have h := oneT_not cols row ⟨nm, op, (vt, vi, vs), false, nt⟩ false
          have h' : oneT cols row ⟨nm, op, (vt, vi, vs), false, !nt⟩ = 2 - oneT cols row ⟨nm, op, (vt, vi, vs), false, nt⟩ := h
          rw [hoa, hob] at h'; omega
        have hab2 : 0 ≤ a ∧ a ≤ 2 := by rw [← hoa]; exact oneT_in _ _ _
        have hu2 : (u == 2) = false := by
          rw [rowT_2 _ _ _ _ rfl rfl, hoa, hob] at hu
          rw [beq_eq_false_iff_ne]; omega
        have hyx : ¬ x < y := by have := rowT_and cols row l ⟨nm, op, (vt, vi, vs), false, nt⟩ rfl; rw [hx, hy] at this; omega
        have hzz := rowT_or cols row l ⟨nm, op, (vt, vi, vs), true, nt⟩ (by have := HTN.out; omega) rfl
        rw [hx, hz] at hzz
        have hzx : ¬ z < x := by omega
        have hza : ¬ z < a := by
          have h := hzz.2
          have h' : oneT cols row ⟨nm, op, (vt, vi, vs), true, nt⟩ = oneT cols row ⟨nm, op, (vt, vi, vs), false, nt⟩ := oneT_or cols row ⟨nm, op, (vt, vi, vs), false, nt⟩ true
          rw [h', hoa] at h; omega
        have hwab : IntKind.i64.wrap 2 = 2 := rfl
        have HVa := Lib.hid ha
        have HVb := Lib.hid hb
        have HVx := Lib.hid hx
        have HVy := Lib.hid hy
        have HVz := Lib.hid hz
        have HVu := Lib.hid hu
        clear hrc hrh hrl lat ha hb hx hy hz hu hoa hob hzz
        have hS : (fun W : World => Later wr W) wr := Later.refl _
        go_upto_region 20 with fail
        go_cut [14, 15] from 74 to 89 (fun av bv wx => av = .int .i64 a ∧ bv = .int .i64 b ∧ ∃ W, W = wx ∧ Later wr W)
        case first =>
          refine wp_region_Z (S := (fun W : World => Later wr W)) 17 (by kernel_rfl) ?_
          have hS : (fun W : World => Later wr W) (wr).drew := Later.trans hS (Later.refl _).drew
          obtain ⟨y0, hwd⟩ : ∃ x, (wr).drew = x := ⟨_, rfl⟩
          rw [hwd] at hS ⊢
          clear hwd
          refine wpAnyZ_take (i := 0) (oi := { dst := some 74, op := _, type := _, pos := _, after := _, guard := _ }) (v := ?_) rfl (by kernel_rfl) (by kernel_rfl) (by kernel_rfl) (by kernel_rfl) (fun _ _ _ h => h) (Or.inl ⟨by rfl, ?_⟩) hS ?_
          rotate_left
          focus ((intro w hSw; (try dsimp only at hSw); have d0 := HD0.out w hSw; have d1 := HD1.out w hSw; have d2 := HD2.out w hSw; have b0 := (HA1.out.later (HLA.out.trans hSw)).cell 0 _ rfl; have b1 := (HA1.out.later (HLA.out.trans hSw)).cell 1 _ rfl; have b2 := (HA1.out.later (HLA.out.trans hSw)).cell 2 _ rfl; have b3 := (HA1.out.later (HLA.out.trans hSw)).cell 3 _ rfl; have b4 := (HA1.out.later (HLA.out.trans hSw)).cell 4 _ rfl; have b5 := (HA1.out.later (HLA.out.trans hSw)).cell 5 _ rfl; have b6 := (HA1.out.later (HLA.out.trans hSw)).cell 6 _ rfl; go_simp); (try with_reducible rfl))
          (try simp only [Act.put, List.setIfInBounds_toArray, List.set_cons_zero, List.set_cons_succ])
          refine wpAnyZ_take (i := 1) (oi := { dst := some 75, op := _, type := _, pos := _, after := _, guard := _ }) (v := ?_) rfl (by kernel_rfl) (by kernel_rfl) (by kernel_rfl) (by kernel_rfl) (fun _ _ _ h => h) (Or.inl ⟨by rfl, ?_⟩) hS ?_
          rotate_left
          focus ((intro w hSw; (try dsimp only at hSw); have d0 := HD0.out w hSw; have d1 := HD1.out w hSw; have d2 := HD2.out w hSw; have b0 := (HA1.out.later (HLA.out.trans hSw)).cell 0 _ rfl; have b1 := (HA1.out.later (HLA.out.trans hSw)).cell 1 _ rfl; have b2 := (HA1.out.later (HLA.out.trans hSw)).cell 2 _ rfl; have b3 := (HA1.out.later (HLA.out.trans hSw)).cell 3 _ rfl; have b4 := (HA1.out.later (HLA.out.trans hSw)).cell 4 _ rfl; have b5 := (HA1.out.later (HLA.out.trans hSw)).cell 5 _ rfl; have b6 := (HA1.out.later (HLA.out.trans hSw)).cell 6 _ rfl; go_simp); (try with_reducible rfl))
          (try simp only [Act.put, List.setIfInBounds_toArray, List.set_cons_zero, List.set_cons_succ])
          refine wpAnyZ_take (i := 3) (oi := { dst := some 77, op := _, type := _, pos := _, after := _, guard := _ }) (v := ?_) rfl (by kernel_rfl) (by kernel_rfl) (by kernel_rfl) (by kernel_rfl) (fun _ _ _ h => h) (Or.inl ⟨by rfl, ?_⟩) hS ?_
          rotate_left
          focus ((intro w hSw; (try dsimp only at hSw); have d0 := HD0.out w hSw; have d1 := HD1.out w hSw; have d2 := HD2.out w hSw; go_simp); (try with_reducible rfl))
          (try simp only [Act.put, List.setIfInBounds_toArray, List.set_cons_zero, List.set_cons_succ])
          refine wpAnyZ_take (i := 4) (oi := { dst := some 78, op := _, type := _, pos := _, after := _, guard := _ }) (v := ?_) rfl (by kernel_rfl) (by kernel_rfl) (by kernel_rfl) (by kernel_rfl) (fun _ _ _ h => h) (Or.inl ⟨by rfl, ?_⟩) hS ?_
          rotate_left
          focus ((intro w hSw; (try dsimp only at hSw); have d0 := HD0.out w hSw; have d1 := HD1.out w hSw; have d2 := HD2.out w hSw; go_simp); (try with_reducible rfl))
          (try simp only [Act.put, List.setIfInBounds_toArray, List.set_cons_zero, List.set_cons_succ])
          refine wpAnyZ_take (i := 5) (oi := { dst := some 79, op := _, type := _, pos := _, after := _, guard := _ }) (v := ?_) rfl (by kernel_rfl) (by kernel_rfl) (by kernel_rfl) (by kernel_rfl) (fun _ _ _ h => h) (Or.inl ⟨by rfl, ?_⟩) hS ?_
          rotate_left
          focus ((intro w hSw; (try dsimp only at hSw); have d0 := HD0.out w hSw; have d1 := HD1.out w hSw; have d2 := HD2.out w hSw; go_simp); (try with_reducible rfl))
          (try simp only [Act.put, List.setIfInBounds_toArray, List.set_cons_zero, List.set_cons_succ])
          refine wpAnyZ_take (i := 6) (oi := { dst := some 80, op := _, type := _, pos := _, after := _, guard := _ }) (v := ?_) rfl (by kernel_rfl) (by kernel_rfl) (by kernel_rfl) (by kernel_rfl) (fun _ _ _ h => h) (Or.inl ⟨by rfl, ?_⟩) hS ?_
          rotate_left
          focus ((intro w hSw; (try dsimp only at hSw); have d0 := HD0.out w hSw; have d1 := HD1.out w hSw; have d2 := HD2.out w hSw; go_simp); (try with_reducible rfl))
          (try simp only [Act.put, List.setIfInBounds_toArray, List.set_cons_zero, List.set_cons_succ])
          refine wpAnyZ_take (i := 8) (oi := { dst := some 82, op := _, type := _, pos := _, after := _, guard := _ }) (v := ?_) rfl (by kernel_rfl) (by kernel_rfl) (by kernel_rfl) (by kernel_rfl) (fun _ _ _ h => h) (Or.inl ⟨by rfl, ?_⟩) hS ?_
          rotate_left
          focus ((intro w hSw; (try dsimp only at hSw); have d0 := HD0.out w hSw; have d1 := HD1.out w hSw; have d2 := HD2.out w hSw; go_simp); (try with_reducible rfl))
          (try simp only [Act.put, List.setIfInBounds_toArray, List.set_cons_zero, List.set_cons_succ])
          refine wpAnyZ_take (i := 9) (oi := { dst := some 83, op := _, type := _, pos := _, after := _, guard := _ }) (v := ?_) rfl (by kernel_rfl) (by kernel_rfl) (by kernel_rfl) (by kernel_rfl) (fun _ _ _ h => h) (Or.inl ⟨by rfl, ?_⟩) hS ?_
          rotate_left
          focus ((intro w hSw; (try dsimp only at hSw); have d0 := HD0.out w hSw; have d1 := HD1.out w hSw; have d2 := HD2.out w hSw; have b0 := (HA2.out.later (HLA.out.trans hSw)).cell 0 _ rfl; have b1 := (HA2.out.later (HLA.out.trans hSw)).cell 1 _ rfl; have b2 := (HA2.out.later (HLA.out.trans hSw)).cell 2 _ rfl; have b3 := (HA2.out.later (HLA.out.trans hSw)).cell 3 _ rfl; have b4 := (HA2.out.later (HLA.out.trans hSw)).cell 4 _ rfl; have b5 := (HA2.out.later (HLA.out.trans hSw)).cell 5 _ rfl; have b6 := (HA2.out.later (HLA.out.trans hSw)).cell 6 _ rfl; go_simp); (try with_reducible rfl))
          (try simp only [Act.put, List.setIfInBounds_toArray, List.set_cons_zero, List.set_cons_succ])
          refine wpAnyZ_take (i := 11) (oi := { dst := some 85, op := _, type := _, pos := _, after := _, guard := _ }) (v := ?_) rfl (by kernel_rfl) (by kernel_rfl) (by kernel_rfl) (by kernel_rfl) (fun _ _ _ h => h) (Or.inl ⟨by rfl, ?_⟩) hS ?_
          rotate_left
          focus ((intro w hSw; (try dsimp only at hSw); have d0 := HD0.out w hSw; have d1 := HD1.out w hSw; have d2 := HD2.out w hSw; go_simp); (try with_reducible rfl))
          (try simp only [Act.put, List.setIfInBounds_toArray, List.set_cons_zero, List.set_cons_succ])
          refine wpAnyZ_take (i := 12) (oi := { dst := some 86, op := _, type := _, pos := _, after := _, guard := _ }) (v := ?_) rfl (by kernel_rfl) (by kernel_rfl) (by kernel_rfl) (by kernel_rfl) (fun _ _ _ h => h) (Or.inl ⟨by rfl, ?_⟩) hS ?_
          rotate_left
          focus ((intro w hSw; (try dsimp only at hSw); have d0 := HD0.out w hSw; have d1 := HD1.out w hSw; have d2 := HD2.out w hSw; go_simp); (try with_reducible rfl))
          (try simp only [Act.put, List.setIfInBounds_toArray, List.set_cons_zero, List.set_cons_succ])
          refine wpAnyZ_take (i := 13) (oi := { dst := some 87, op := _, type := _, pos := _, after := _, guard := _ }) (v := ?_) rfl (by kernel_rfl) (by kernel_rfl) (by kernel_rfl) (by kernel_rfl) (fun _ _ _ h => h) (Or.inl ⟨by rfl, ?_⟩) hS ?_
          rotate_left
          focus ((intro w hSw; (try dsimp only at hSw); have d0 := HD0.out w hSw; have d1 := HD1.out w hSw; have d2 := HD2.out w hSw; go_simp); (try with_reducible rfl))
          (try simp only [Act.put, List.setIfInBounds_toArray, List.set_cons_zero, List.set_cons_succ])
          refine wpAnyZ_take (i := 14) (oi := { dst := some 88, op := _, type := _, pos := _, after := _, guard := _ }) (v := ?_) rfl (by kernel_rfl) (by kernel_rfl) (by kernel_rfl) (by kernel_rfl) (fun _ _ _ h => h) (Or.inl ⟨by rfl, ?_⟩) hS ?_
          rotate_left
          focus ((intro w hSw; (try dsimp only at hSw); have d0 := HD0.out w hSw; have d1 := HD1.out w hSw; have d2 := HD2.out w hSw; go_simp); (try with_reducible rfl))
          (try simp only [Act.put, List.setIfInBounds_toArray, List.set_cons_zero, List.set_cons_succ])
          refine wpAnyZ_all (rs := [2, 10]) (by kernel_rfl) (by simp) (fun i hi => ?_)
          simp only [List.mem_cons, List.not_mem_nil, or_false] at hi
          rcases hi with rfl | rfl
          · skip
            refine stepZ (o := { dst := some 76, op := _, type := _, pos := _, after := _, guard := _ }) rfl (fun K hK => ?_)
            go_simp
            obtain ⟨la, hl⟩ : ∃ x, (y0).heap.size = x := ⟨_, rfl⟩
            obtain ⟨y1, hwl⟩ : ∃ x, (y0).alloc (.cells (tcs nm op vt vi vs false nt) 28) = x := ⟨_, rfl⟩
            have ll : Later y0 y1 := hwl ▸ Later.new _ _
            have HLa := Lib.hid (show Has y1 (some ⟨la, 0, none⟩) (ft [⟨nm, op, (vt, vi, vs), false, nt⟩]) from (hwl ▸ Blk.new y0 (tcs nm op vt vi vs false nt) 28 la hl.symm : Blk y1 la (tcs nm op vt vi vs false nt) 28).has)
            try rw [hl]
            rw [hwl]
            have HSZa := Lib.hid (show la < y1.heap.size from Blk.lt (hwl ▸ Blk.new y0 (tcs nm op vt vi vs false nt) 28 la hl.symm : Blk y1 la (tcs nm op vt vi vs false nt) 28))
            have hS : (fun W : World => Later wr W) y1 := Later.trans hS ll
            refine hK _ _ hS ?_
            clear hK hwl ll hl
            (try simp only [Act.put, List.setIfInBounds_toArray, List.set_cons_zero, List.set_cons_succ])
            refine wpAnyZ_all (rs := [7, 10]) (by kernel_rfl) (by simp) (fun i hi => ?_)
            simp only [List.mem_cons, List.not_mem_nil, or_false] at hi
            rcases hi with rfl | rfl
            · skip
              refine stepZ (o := { dst := some 81, op := _, type := _, pos := _, after := _, guard := _ }) rfl (fun K hK => ?_)
              go_simp
              refine (HPRW.out [⟨nm, op, (vt, vi, vs), false, nt⟩] (some ⟨la, 0, none⟩) 1 1 y1 hS (by first | rfl | (rw [List.length_append, ← HTN.out]; rfl) | exact HTN.out) (by omega) HLa.out).mono ?_
              rintro e y2 ⟨rfl, lh⟩
              rw [HVa.out]
              have hS : (fun W : World => Later wr W) y2 := Later.trans hS lh
              refine hK _ _ hS ?_
              clear hK lh
              (try simp only [Act.put, List.setIfInBounds_toArray, List.set_cons_zero, List.set_cons_succ])
              refine wpAnyZ_all (rs := [10]) (by kernel_rfl) (by simp) (fun i hi => ?_)
              simp only [List.mem_cons, List.not_mem_nil, or_false] at hi
              subst hi
              refine stepZ (o := { dst := some 84, op := _, type := _, pos := _, after := _, guard := _ }) rfl (fun K hK => ?_)
              go_simp
              obtain ⟨lb, hl⟩ : ∃ x, (y2).heap.size = x := ⟨_, rfl⟩
              obtain ⟨y3, hwl⟩ : ∃ x, (y2).alloc (.cells (tcs nm op vt vi vs false (!nt)) 28) = x := ⟨_, rfl⟩
              have ll : Later y2 y3 := hwl ▸ Later.new _ _
              have HLb := Lib.hid (show Has y3 (some ⟨lb, 0, none⟩) (ft [⟨nm, op, (vt, vi, vs), false, !nt⟩]) from (hwl ▸ Blk.new y2 (tcs nm op vt vi vs false (!nt)) 28 lb hl.symm : Blk y3 lb (tcs nm op vt vi vs false (!nt)) 28).has)
              try rw [hl]
              rw [hwl]
              have HSZb := Lib.hid (show lb < y3.heap.size from Blk.lt (hwl ▸ Blk.new y2 (tcs nm op vt vi vs false (!nt)) 28 lb hl.symm : Blk y3 lb (tcs nm op vt vi vs false (!nt)) 28))
              have hS : (fun W : World => Later wr W) y3 := Later.trans hS ll
              refine hK _ _ hS ?_
              clear hK hwl ll hl
              (try simp only [Act.put, List.setIfInBounds_toArray, List.set_cons_zero, List.set_cons_succ])
              refine wpAnyZ_all (rs := [15]) (by kernel_rfl) (by simp) (fun i hi => ?_)
              simp only [List.mem_cons, List.not_mem_nil, or_false] at hi
              subst hi
              refine stepZ (o := { dst := some 89, op := _, type := _, pos := _, after := _, guard := _ }) rfl (fun K hK => ?_)
              go_simp
              refine (HPRW.out [⟨nm, op, (vt, vi, vs), false, !nt⟩] (some ⟨lb, 0, none⟩) 1 1 y3 hS (by first | rfl | (rw [List.length_append, ← HTN.out]; rfl) | exact HTN.out) (by omega) HLb.out).mono ?_
              rintro e y4 ⟨rfl, lh⟩
              rw [HVb.out]
              have hS : (fun W : World => Later wr W) y4 := Later.trans hS lh
              refine hK _ _ hS ?_
              clear hK lh
              (try simp only [Act.put, List.setIfInBounds_toArray, List.set_cons_zero, List.set_cons_succ])
              refine wpAnyZ_all (rs := [16]) (by kernel_rfl) (by simp) (fun i hi => ?_)
              simp only [List.mem_cons, List.not_mem_nil, or_false] at hi
              subst hi
              refine stepZ (o := { dst := some 14, op := _, type := _, pos := _, after := _, guard := _ }) rfl (fun K hK => ?_)
              go_simp
              refine hK _ _ hS ?_
              clear hK
              (try simp only [Act.put, List.setIfInBounds_toArray, List.set_cons_zero, List.set_cons_succ])
              refine wpAnyZ_all (rs := [17]) (by kernel_rfl) (by simp) (fun i hi => ?_)
              simp only [List.mem_cons, List.not_mem_nil, or_false] at hi
              subst hi
              refine stepZl (o := { dst := some 15, op := _, type := _, pos := _, after := _, guard := _ }) rfl (fun K hK => ?_)
              go_simp
              refine hK _ _ ?_
              clear hK
              (try simp only [Act.put, List.setIfInBounds_toArray, List.set_cons_zero, List.set_cons_succ])
              refine wpAnyZ_done (by kernel_rfl) ?_ _
              go_wp2_with fail
              go_meet
              all_goals first | exact ⟨rfl, _, rfl, hS⟩ | exact ⟨rfl, rfl, _, rfl, hS⟩
            · skip
              refine stepZ (o := { dst := some 84, op := _, type := _, pos := _, after := _, guard := _ }) rfl (fun K hK => ?_)
              go_simp
              obtain ⟨lb, hl⟩ : ∃ x, (y1).heap.size = x := ⟨_, rfl⟩
              obtain ⟨y2, hwl⟩ : ∃ x, (y1).alloc (.cells (tcs nm op vt vi vs false (!nt)) 28) = x := ⟨_, rfl⟩
              have ll : Later y1 y2 := hwl ▸ Later.new _ _
              have HLb := Lib.hid (show Has y2 (some ⟨lb, 0, none⟩) (ft [⟨nm, op, (vt, vi, vs), false, !nt⟩]) from (hwl ▸ Blk.new y1 (tcs nm op vt vi vs false (!nt)) 28 lb hl.symm : Blk y2 lb (tcs nm op vt vi vs false (!nt)) 28).has)
              try rw [hl]
              rw [hwl]
              have HSZb := Lib.hid (show lb < y2.heap.size from Blk.lt (hwl ▸ Blk.new y1 (tcs nm op vt vi vs false (!nt)) 28 lb hl.symm : Blk y2 lb (tcs nm op vt vi vs false (!nt)) 28))
              have HLa := Lib.hid (HLa.out.later ll)
              have hS : (fun W : World => Later wr W) y2 := Later.trans hS ll
              refine hK _ _ hS ?_
              clear hK hwl ll hl
              (try simp only [Act.put, List.setIfInBounds_toArray, List.set_cons_zero, List.set_cons_succ])
              refine wpAnyZ_all (rs := [7]) (by kernel_rfl) (by simp) (fun i hi => ?_)
              simp only [List.mem_cons, List.not_mem_nil, or_false] at hi
              subst hi
              refine stepZ (o := { dst := some 81, op := _, type := _, pos := _, after := _, guard := _ }) rfl (fun K hK => ?_)
              go_simp
              refine (HPRW.out [⟨nm, op, (vt, vi, vs), false, nt⟩] (some ⟨la, 0, none⟩) 1 1 y2 hS (by first | rfl | (rw [List.length_append, ← HTN.out]; rfl) | exact HTN.out) (by omega) HLa.out).mono ?_
              rintro e y3 ⟨rfl, lh⟩
              rw [HVa.out]
              have HLb := Lib.hid (HLb.out.later lh)
              have hS : (fun W : World => Later wr W) y3 := Later.trans hS lh
              refine hK _ _ hS ?_
              clear hK lh
              (try simp only [Act.put, List.setIfInBounds_toArray, List.set_cons_zero, List.set_cons_succ])
              refine wpAnyZ_all (rs := [15]) (by kernel_rfl) (by simp) (fun i hi => ?_)
              simp only [List.mem_cons, List.not_mem_nil, or_false] at hi
              subst hi
              refine stepZ (o := { dst := some 89, op := _, type := _, pos := _, after := _, guard := _ }) rfl (fun K hK => ?_)
              go_simp
              refine (HPRW.out [⟨nm, op, (vt, vi, vs), false, !nt⟩] (some ⟨lb, 0, none⟩) 1 1 y3 hS (by first | rfl | (rw [List.length_append, ← HTN.out]; rfl) | exact HTN.out) (by omega) HLb.out).mono ?_
              rintro e y4 ⟨rfl, lh⟩
              rw [HVb.out]
              have hS : (fun W : World => Later wr W) y4 := Later.trans hS lh
              refine hK _ _ hS ?_
              clear hK lh
              (try simp only [Act.put, List.setIfInBounds_toArray, List.set_cons_zero, List.set_cons_succ])
              refine wpAnyZ_all (rs := [16]) (by kernel_rfl) (by simp) (fun i hi => ?_)
              simp only [List.mem_cons, List.not_mem_nil, or_false] at hi
              subst hi
              refine stepZ (o := { dst := some 14, op := _, type := _, pos := _, after := _, guard := _ }) rfl (fun K hK => ?_)
              go_simp
              refine hK _ _ hS ?_
              clear hK
              (try simp only [Act.put, List.setIfInBounds_toArray, List.set_cons_zero, List.set_cons_succ])
              refine wpAnyZ_all (rs := [17]) (by kernel_rfl) (by simp) (fun i hi => ?_)
              simp only [List.mem_cons, List.not_mem_nil, or_false] at hi
              subst hi
              refine stepZl (o := { dst := some 15, op := _, type := _, pos := _, after := _, guard := _ }) rfl (fun K hK => ?_)
              go_simp
              refine hK _ _ ?_
              clear hK
              (try simp only [Act.put, List.setIfInBounds_toArray, List.set_cons_zero, List.set_cons_succ])
              refine wpAnyZ_done (by kernel_rfl) ?_ _
              go_wp2_with fail
              go_meet
              all_goals first | exact ⟨rfl, _, rfl, hS⟩ | exact ⟨rfl, rfl, _, rfl, hS⟩
          · skip
            refine stepZ (o := { dst := some 84, op := _, type := _, pos := _, after := _, guard := _ }) rfl (fun K hK => ?_)
            go_simp
            obtain ⟨lb, hl⟩ : ∃ x, (y0).heap.size = x := ⟨_, rfl⟩
            obtain ⟨y1, hwl⟩ : ∃ x, (y0).alloc (.cells (tcs nm op vt vi vs false (!nt)) 28) = x := ⟨_, rfl⟩
            have ll : Later y0 y1 := hwl ▸ Later.new _ _
            have HLb := Lib.hid (show Has y1 (some ⟨lb, 0, none⟩) (ft [⟨nm, op, (vt, vi, vs), false, !nt⟩]) from (hwl ▸ Blk.new y0 (tcs nm op vt vi vs false (!nt)) 28 lb hl.symm : Blk y1 lb (tcs nm op vt vi vs false (!nt)) 28).has)
            try rw [hl]
            rw [hwl]
            have HSZb := Lib.hid (show lb < y1.heap.size from Blk.lt (hwl ▸ Blk.new y0 (tcs nm op vt vi vs false (!nt)) 28 lb hl.symm : Blk y1 lb (tcs nm op vt vi vs false (!nt)) 28))
            have hS : (fun W : World => Later wr W) y1 := Later.trans hS ll
            refine hK _ _ hS ?_
            clear hK hwl ll hl
            (try simp only [Act.put, List.setIfInBounds_toArray, List.set_cons_zero, List.set_cons_succ])
            refine wpAnyZ_all (rs := [2]) (by kernel_rfl) (by simp) (fun i hi => ?_)
            simp only [List.mem_cons, List.not_mem_nil, or_false] at hi
            subst hi
            refine stepZ (o := { dst := some 76, op := _, type := _, pos := _, after := _, guard := _ }) rfl (fun K hK => ?_)
            go_simp
            obtain ⟨la, hl⟩ : ∃ x, (y1).heap.size = x := ⟨_, rfl⟩
            obtain ⟨y2, hwl⟩ : ∃ x, (y1).alloc (.cells (tcs nm op vt vi vs false nt) 28) = x := ⟨_, rfl⟩
            have ll : Later y1 y2 := hwl ▸ Later.new _ _
            have HLa := Lib.hid (show Has y2 (some ⟨la, 0, none⟩) (ft [⟨nm, op, (vt, vi, vs), false, nt⟩]) from (hwl ▸ Blk.new y1 (tcs nm op vt vi vs false nt) 28 la hl.symm : Blk y2 la (tcs nm op vt vi vs false nt) 28).has)
            try rw [hl]
            rw [hwl]
            have HSZa := Lib.hid (show la < y2.heap.size from Blk.lt (hwl ▸ Blk.new y1 (tcs nm op vt vi vs false nt) 28 la hl.symm : Blk y2 la (tcs nm op vt vi vs false nt) 28))
            have HLb := Lib.hid (HLb.out.later ll)
            have hS : (fun W : World => Later wr W) y2 := Later.trans hS ll
            refine hK _ _ hS ?_
            clear hK hwl ll hl
            (try simp only [Act.put, List.setIfInBounds_toArray, List.set_cons_zero, List.set_cons_succ])
            refine wpAnyZ_all (rs := [7]) (by kernel_rfl) (by simp) (fun i hi => ?_)
            simp only [List.mem_cons, List.not_mem_nil, or_false] at hi
            subst hi
            refine stepZ (o := { dst := some 81, op := _, type := _, pos := _, after := _, guard := _ }) rfl (fun K hK => ?_)
            go_simp
            refine (HPRW.out [⟨nm, op, (vt, vi, vs), false, nt⟩] (some ⟨la, 0, none⟩) 1 1 y2 hS (by first | rfl | (rw [List.length_append, ← HTN.out]; rfl) | exact HTN.out) (by omega) HLa.out).mono ?_
            rintro e y3 ⟨rfl, lh⟩
            rw [HVa.out]
            have HLb := Lib.hid (HLb.out.later lh)
            have hS : (fun W : World => Later wr W) y3 := Later.trans hS lh
            refine hK _ _ hS ?_
            clear hK lh
            (try simp only [Act.put, List.setIfInBounds_toArray, List.set_cons_zero, List.set_cons_succ])
            refine wpAnyZ_all (rs := [15]) (by kernel_rfl) (by simp) (fun i hi => ?_)
            simp only [List.mem_cons, List.not_mem_nil, or_false] at hi
            subst hi
            refine stepZ (o := { dst := some 89, op := _, type := _, pos := _, after := _, guard := _ }) rfl (fun K hK => ?_)
            go_simp
            refine (HPRW.out [⟨nm, op, (vt, vi, vs), false, !nt⟩] (some ⟨lb, 0, none⟩) 1 1 y3 hS (by first | rfl | (rw [List.length_append, ← HTN.out]; rfl) | exact HTN.out) (by omega) HLb.out).mono ?_
            rintro e y4 ⟨rfl, lh⟩
            rw [HVb.out]
            have hS : (fun W : World => Later wr W) y4 := Later.trans hS lh
            refine hK _ _ hS ?_
            clear hK lh
            (try simp only [Act.put, List.setIfInBounds_toArray, List.set_cons_zero, List.set_cons_succ])
            refine wpAnyZ_all (rs := [16]) (by kernel_rfl) (by simp) (fun i hi => ?_)
            simp only [List.mem_cons, List.not_mem_nil, or_false] at hi
            subst hi
            refine stepZ (o := { dst := some 14, op := _, type := _, pos := _, after := _, guard := _ }) rfl (fun K hK => ?_)
            go_simp
            refine hK _ _ hS ?_
            clear hK
            (try simp only [Act.put, List.setIfInBounds_toArray, List.set_cons_zero, List.set_cons_succ])
            refine wpAnyZ_all (rs := [17]) (by kernel_rfl) (by simp) (fun i hi => ?_)
            simp only [List.mem_cons, List.not_mem_nil, or_false] at hi
            subst hi
            refine stepZl (o := { dst := some 15, op := _, type := _, pos := _, after := _, guard := _ }) rfl (fun K hK => ?_)
            go_simp
            refine hK _ _ ?_
            clear hK
            (try simp only [Act.put, List.setIfInBounds_toArray, List.set_cons_zero, List.set_cons_succ])
            refine wpAnyZ_done (by kernel_rfl) ?_ _
            go_wp2_with fail
            go_meet
            all_goals first | exact ⟨rfl, _, rfl, hS⟩ | exact ⟨rfl, rfl, _, rfl, hS⟩
        case rest =>
          obtain ⟨rfl, rfl, x00, rfl, lx⟩ := hcut
          have hS : (fun W : World => Later wr W) x00 := lx
          go_upto_region 21 with fail
          refine wp_region_Z (S := (fun W : World => Later wr W)) 7 (by kernel_rfl) ?_
          have hS : (fun W : World => Later wr W) (x00).drew := Later.trans hS (Later.refl _).drew
          obtain ⟨x0, hwd⟩ : ∃ x, (x00).drew = x := ⟨_, rfl⟩
          rw [hwd] at hS ⊢
          clear hwd
          refine wpAnyZ_take (i := 0) (oi := { dst := some 90, op := _, type := _, pos := _, after := _, guard := _ }) (v := ?_) rfl (by kernel_rfl) (by kernel_rfl) (by kernel_rfl) (by kernel_rfl) (fun _ _ _ h => h) (Or.inl ⟨by rfl, ?_⟩) hS ?_
          rotate_left
          focus ((intro w hSw; (try dsimp only at hSw); have d0 := HD0.out w hSw; have d1 := HD1.out w hSw; have d2 := HD2.out w hSw; go_simp); (try with_reducible rfl))
          (try simp only [Act.put, List.setIfInBounds_toArray, List.set_cons_zero, List.set_cons_succ])
          refine wpAnyZ_take (i := 1) (oi := { dst := some 91, op := _, type := _, pos := _, after := _, guard := _ }) (v := ?_) rfl (by kernel_rfl) (by kernel_rfl) (by kernel_rfl) (by kernel_rfl) (fun _ _ _ h => h) (Or.inl ⟨by rfl, ?_⟩) hS ?_
          rotate_left
          focus ((intro w hSw; (try dsimp only at hSw); have d0 := HD0.out w hSw; have d1 := HD1.out w hSw; have d2 := HD2.out w hSw; go_simp); (try with_reducible rfl))
          (try simp only [Act.put, List.setIfInBounds_toArray, List.set_cons_zero, List.set_cons_succ])
          refine wpAnyZ_take (i := 2) (oi := { dst := some 92, op := _, type := _, pos := _, after := _, guard := _ }) (v := ?_) rfl (by kernel_rfl) (by kernel_rfl) (by kernel_rfl) (by kernel_rfl) (fun _ _ _ h => h) (Or.inl ⟨by rfl, ?_⟩) hS ?_
          rotate_left
          focus ((intro w hSw; (try dsimp only at hSw); have d0 := HD0.out w hSw; have d1 := HD1.out w hSw; have d2 := HD2.out w hSw; go_simp); (try with_reducible rfl))
          (try simp only [Act.put, List.setIfInBounds_toArray, List.set_cons_zero, List.set_cons_succ])
          refine wpAnyZ_take (i := 3) (oi := { dst := some 93, op := _, type := _, pos := _, after := _, guard := _ }) (v := ?_) rfl (by kernel_rfl) (by kernel_rfl) (by kernel_rfl) (by kernel_rfl) (fun _ _ _ h => h) (Or.inl ⟨by rfl, ?_⟩) hS ?_
          rotate_left
          focus ((intro w hSw; (try dsimp only at hSw); have d0 := HD0.out w hSw; have d1 := HD1.out w hSw; have d2 := HD2.out w hSw; go_simp); (try with_reducible rfl))
          (try simp only [Act.put, List.setIfInBounds_toArray, List.set_cons_zero, List.set_cons_succ])
          refine wpAnyZ_take (i := 4) (oi := { dst := some 94, op := _, type := _, pos := _, after := _, guard := _ }) (v := ?_) rfl (by kernel_rfl) (by kernel_rfl) (by kernel_rfl) (by kernel_rfl) (fun _ _ _ h => h) (Or.inl ⟨by rfl, ?_⟩) hS ?_
          rotate_left
          focus ((intro w hSw; (try dsimp only at hSw); have d0 := HD0.out w hSw; have d1 := HD1.out w hSw; have d2 := HD2.out w hSw; go_simp); (try with_reducible rfl))
          (try simp only [Act.put, List.setIfInBounds_toArray, List.set_cons_zero, List.set_cons_succ])
          refine wpAnyZ_take (i := 5) (oi := { dst := some 95, op := _, type := _, pos := _, after := _, guard := _ }) (v := ?_) rfl (by kernel_rfl) (by kernel_rfl) (by kernel_rfl) (by kernel_rfl) (fun _ _ _ h => h) (Or.inl ⟨by rfl, ?_⟩) hS ?_
          rotate_left
          focus ((intro w hSw; (try dsimp only at hSw); have d0 := HD0.out w hSw; have d1 := HD1.out w hSw; have d2 := HD2.out w hSw; go_simp); (try with_reducible rfl))
          (try simp only [Act.put, List.setIfInBounds_toArray, List.set_cons_zero, List.set_cons_succ])
          refine wpAnyZ_all (rs := [6]) (by kernel_rfl) (by simp) (fun i hi => ?_)
          simp only [List.mem_cons, List.not_mem_nil, or_false] at hi
          subst hi
          refine stepZ (o := { dst := some 96, op := _, type := _, pos := _, after := _, guard := _ }) rfl (fun K hK => ?_)
          go_simp
          refine (HPRW.out l (some ⟨tb, toff, none⟩) tn tc x0 hS (by first | rfl | (rw [List.length_append, ← HTN.out]; rfl) | exact HTN.out) (by omega) (HAT.out.later ((HLO.out.trans HLA.out).trans hS))).mono ?_
          rintro e x1 ⟨rfl, lh⟩
          rw [HVx.out]
          have hS : (fun W : World => Later wr W) x1 := Later.trans hS lh
          refine hK _ _ hS ?_
          clear hK lh
          (try simp only [Act.put, List.setIfInBounds_toArray, List.set_cons_zero, List.set_cons_succ])
          refine wpAnyZ_all (rs := [7]) (by kernel_rfl) (by simp) (fun i hi => ?_)
          simp only [List.mem_cons, List.not_mem_nil, or_false] at hi
          subst hi
          refine stepZl (o := { dst := some 16, op := _, type := _, pos := _, after := _, guard := _ }) rfl (fun K hK => ?_)
          go_simp
          refine hK _ _ ?_
          clear hK
          (try simp only [Act.put, List.setIfInBounds_toArray, List.set_cons_zero, List.set_cons_succ])
          refine wpAnyZ_done (by kernel_rfl) ?_ _
          go_upto_region 22 with fail
          go_cut [17] from 97 to 108 (fun av wx => av = .int .i64 y ∧ ∃ W, W = wx ∧ Later wr W)
          case first =>
            refine wp_region_Z (S := (fun W : World => Later wr W)) 12 (by kernel_rfl) ?_
            have hS : (fun W : World => Later wr W) (x1).drew := Later.trans hS (Later.refl _).drew
            obtain ⟨v0, hwd⟩ : ∃ x, (x1).drew = x := ⟨_, rfl⟩
            rw [hwd] at hS ⊢
            clear hwd
            refine wpAnyZ_take (i := 0) (oi := { dst := some 97, op := _, type := _, pos := _, after := _, guard := _ }) (v := ?_) rfl (by kernel_rfl) (by kernel_rfl) (by kernel_rfl) (by kernel_rfl) (fun _ _ _ h => h) (Or.inl ⟨by rfl, ?_⟩) hS ?_
            rotate_left
            focus ((intro w hSw; (try dsimp only at hSw); have d0 := HD0.out w hSw; have d1 := HD1.out w hSw; have d2 := HD2.out w hSw; go_simp); (try with_reducible rfl))
            (try simp only [Act.put, List.setIfInBounds_toArray, List.set_cons_zero, List.set_cons_succ])
            refine wpAnyZ_take (i := 2) (oi := { dst := some 99, op := _, type := _, pos := _, after := _, guard := _ }) (v := ?_) rfl (by kernel_rfl) (by kernel_rfl) (by kernel_rfl) (by kernel_rfl) (fun _ _ _ h => h) (Or.inl ⟨by rfl, ?_⟩) hS ?_
            rotate_left
            focus ((intro w hSw; (try dsimp only at hSw); have d0 := HD0.out w hSw; have d1 := HD1.out w hSw; have d2 := HD2.out w hSw; go_simp); (try with_reducible rfl))
            (try simp only [Act.put, List.setIfInBounds_toArray, List.set_cons_zero, List.set_cons_succ])
            refine wpAnyZ_take (i := 4) (oi := { dst := some 101, op := _, type := _, pos := _, after := _, guard := _ }) (v := ?_) rfl (by kernel_rfl) (by kernel_rfl) (by kernel_rfl) (by kernel_rfl) (fun _ _ _ h => h) (Or.inl ⟨by rfl, ?_⟩) hS ?_
            rotate_left
            focus ((intro w hSw; (try dsimp only at hSw); have d0 := HD0.out w hSw; have d1 := HD1.out w hSw; have d2 := HD2.out w hSw; have b0 := (HA1.out.later (HLA.out.trans hSw)).cell 0 _ rfl; have b1 := (HA1.out.later (HLA.out.trans hSw)).cell 1 _ rfl; have b2 := (HA1.out.later (HLA.out.trans hSw)).cell 2 _ rfl; have b3 := (HA1.out.later (HLA.out.trans hSw)).cell 3 _ rfl; have b4 := (HA1.out.later (HLA.out.trans hSw)).cell 4 _ rfl; have b5 := (HA1.out.later (HLA.out.trans hSw)).cell 5 _ rfl; have b6 := (HA1.out.later (HLA.out.trans hSw)).cell 6 _ rfl; go_simp); (try with_reducible rfl))
            (try simp only [Act.put, List.setIfInBounds_toArray, List.set_cons_zero, List.set_cons_succ])
            refine wpAnyZ_take (i := 7) (oi := { dst := some 104, op := _, type := _, pos := _, after := _, guard := _ }) (v := ?_) rfl (by kernel_rfl) (by kernel_rfl) (by kernel_rfl) (by kernel_rfl) (fun _ _ _ h => h) (Or.inl ⟨by rfl, ?_⟩) hS ?_
            rotate_left
            focus ((intro w hSw; (try dsimp only at hSw); have d0 := HD0.out w hSw; have d1 := HD1.out w hSw; have d2 := HD2.out w hSw; go_simp); (try with_reducible rfl))
            (try simp only [Act.put, List.setIfInBounds_toArray, List.set_cons_zero, List.set_cons_succ])
            refine wpAnyZ_take (i := 8) (oi := { dst := some 105, op := _, type := _, pos := _, after := _, guard := _ }) (v := ?_) rfl (by kernel_rfl) (by kernel_rfl) (by kernel_rfl) (by kernel_rfl) (fun _ _ _ h => h) (Or.inl ⟨by rfl, ?_⟩) hS ?_
            rotate_left
            focus ((intro w hSw; (try dsimp only at hSw); have d0 := HD0.out w hSw; have d1 := HD1.out w hSw; have d2 := HD2.out w hSw; go_simp); (try with_reducible rfl))
            (try simp only [Act.put, List.setIfInBounds_toArray, List.set_cons_zero, List.set_cons_succ])
            refine wpAnyZ_take (i := 9) (oi := { dst := some 106, op := _, type := _, pos := _, after := _, guard := _ }) (v := ?_) rfl (by kernel_rfl) (by kernel_rfl) (by kernel_rfl) (by kernel_rfl) (fun _ _ _ h => h) (Or.inl ⟨by rfl, ?_⟩) hS ?_
            rotate_left
            focus ((intro w hSw; (try dsimp only at hSw); have d0 := HD0.out w hSw; have d1 := HD1.out w hSw; have d2 := HD2.out w hSw; go_simp); (try with_reducible rfl))
            (try simp only [Act.put, List.setIfInBounds_toArray, List.set_cons_zero, List.set_cons_succ])
            refine wpAnyZ_take (i := 10) (oi := { dst := some 107, op := _, type := _, pos := _, after := _, guard := _ }) (v := ?_) rfl (by kernel_rfl) (by kernel_rfl) (by kernel_rfl) (by kernel_rfl) (fun _ _ _ h => h) (Or.inl ⟨by rfl, ?_⟩) hS ?_
            rotate_left
            focus ((intro w hSw; (try dsimp only at hSw); have d0 := HD0.out w hSw; have d1 := HD1.out w hSw; have d2 := HD2.out w hSw; go_simp); (try with_reducible rfl))
            (try simp only [Act.put, List.setIfInBounds_toArray, List.set_cons_zero, List.set_cons_succ])
            refine wpAnyZ_all (rs := [1, 5]) (by kernel_rfl) (by simp) (fun i hi => ?_)
            simp only [List.mem_cons, List.not_mem_nil, or_false] at hi
            rcases hi with rfl | rfl
            · skip
              refine stepZ (o := { dst := some 98, op := _, type := _, pos := _, after := _, guard := _ }) rfl (fun K hK => ?_)
              go_simp
              obtain ⟨le, hl⟩ : ∃ x, (v0).heap.size = x := ⟨_, rfl⟩
              obtain ⟨v1, hwl⟩ : ∃ x, (v0).alloc (.cells #[] 28) = x := ⟨_, rfl⟩
              have ll : Later v0 v1 := hwl ▸ Later.new _ _
              have HLE_ := Lib.hid (show v1.ownsRow wr.heap.size 28 7 (.slice (some ⟨le, 0, none⟩) 0 0) 0 [] from ⟨rfl, .inr ⟨le, 0, #[], rfl, by rw [← hl]; exact Later.size hS, (hwl ▸ Blk.new v0 #[] 28 le hl.symm : Blk v1 le #[] 28), Nat.le_refl _, by unfold maxLen; omega, rfl, rfl⟩⟩)
              try rw [hl]
              rw [hwl]
              have hS : (fun W : World => Later wr W) v1 := Later.trans hS ll
              refine hK _ _ hS ?_
              clear hK hwl ll hl
              (try simp only [Act.put, List.setIfInBounds_toArray, List.set_cons_zero, List.set_cons_succ])
              refine wpAnyZ_all (rs := [3, 5]) (by kernel_rfl) (by simp) (fun i hi => ?_)
              simp only [List.mem_cons, List.not_mem_nil, or_false] at hi
              rcases hi with rfl | rfl
              · skip
                refine stepZ (o := { dst := some 100, op := _, type := _, pos := _, after := _, guard := _ }) rfl (fun K hK => ?_)
                refine step_append_x rfl (.tmp 98) (.tmp 99) 23 rfl wr.heap.size 28 _ 7 64 Tryd.underlying23 info_t rfl (by decide) _ 0 [] rfl HLE_.out tb toff tn tc (ft l) rfl (HAT.out.later ((HLO.out.trans HLA.out).trans hS)) (by rw [ft_length, ← HTN.out]) (ft_one _) (by unfold maxLen; omega) (by omega) (Later.size hS) ?_
                rintro E1 ec1 v2 ho hgr hbl hat hnl
                rw [Nat.zero_add] at ho hat
                rw [List.nil_append] at ho
                try rw [Nat.zero_add]
                have HE1 := Lib.hid ho
                have hS : (fun W : World => Later wr W) v2 := Later.of ((Later.below hS).trans hbl)
                refine hK _ _ hS ?_
                clear hK ho hgr hbl hat hnl
                (try simp only [Act.put, List.setIfInBounds_toArray, List.set_cons_zero, List.set_cons_succ])
                refine wpAnyZ_all (rs := [5]) (by kernel_rfl) (by simp) (fun i hi => ?_)
                simp only [List.mem_cons, List.not_mem_nil, or_false] at hi
                subst hi
                refine stepZ (o := { dst := some 102, op := _, type := _, pos := _, after := _, guard := _ }) rfl (fun K hK => ?_)
                go_simp
                obtain ⟨lq, hl⟩ : ∃ x, (v2).heap.size = x := ⟨_, rfl⟩
                obtain ⟨v3, hwl⟩ : ∃ x, (v2).alloc (.cells (tcs nm op vt vi vs false nt) 28) = x := ⟨_, rfl⟩
                have ll : Later v2 v3 := hwl ▸ Later.new _ _
                have HLq := Lib.hid (show Has v3 (some ⟨lq, 0, none⟩) (ft [⟨nm, op, (vt, vi, vs), false, nt⟩]) from (hwl ▸ Blk.new v2 (tcs nm op vt vi vs false nt) 28 lq hl.symm : Blk v3 lq (tcs nm op vt vi vs false nt) 28).has)
                try rw [hl]
                rw [hwl]
                have HSZq := Lib.hid (show lq < v3.heap.size from Blk.lt (hwl ▸ Blk.new v2 (tcs nm op vt vi vs false nt) 28 lq hl.symm : Blk v3 lq (tcs nm op vt vi vs false nt) 28))
                have HE1 := Lib.hid (own_later HE1.out ll)
                have hS : (fun W : World => Later wr W) v3 := Later.trans hS ll
                refine hK _ _ hS ?_
                clear hK hwl ll hl
                (try simp only [Act.put, List.setIfInBounds_toArray, List.set_cons_zero, List.set_cons_succ])
                refine wpAnyZ_all (rs := [6]) (by kernel_rfl) (by simp) (fun i hi => ?_)
                simp only [List.mem_cons, List.not_mem_nil, or_false] at hi
                subst hi
                refine stepZ (o := { dst := some 103, op := _, type := _, pos := _, after := _, guard := _ }) rfl (fun K hK => ?_)
                refine step_append_x rfl (.tmp 100) (.tmp 102) 23 rfl wr.heap.size 28 _ 7 64 Tryd.underlying23 info_t rfl (by decide) _ tn (ft l) rfl HE1.out lq 0 1 1 (ft [⟨nm, op, (vt, vi, vs), false, nt⟩]) rfl HLq.out rfl (ft_one _) (by unfold maxLen; omega) (by omega) (Later.size hS) ?_
                rintro E2 ec2 v4 ho hgr hbl hat hnl
                have HE2 := Lib.hid (show Has v4 E2 (ft (l ++ [⟨nm, op, (vt, vi, vs), false, nt⟩])) by rw [ft_append]; exact (HasX.own ho (o := none) (fun _ h => by cases h)).has)
                have hS : (fun W : World => Later wr W) v4 := Later.of ((Later.below hS).trans hbl)
                refine hK _ _ hS ?_
                clear hK ho hgr hbl hat hnl
                (try simp only [Act.put, List.setIfInBounds_toArray, List.set_cons_zero, List.set_cons_succ])
                refine wpAnyZ_all (rs := [11]) (by kernel_rfl) (by simp) (fun i hi => ?_)
                simp only [List.mem_cons, List.not_mem_nil, or_false] at hi
                subst hi
                refine stepZ (o := { dst := some 108, op := _, type := _, pos := _, after := _, guard := _ }) rfl (fun K hK => ?_)
                go_simp
                refine (HPRW.out (l ++ [⟨nm, op, (vt, vi, vs), false, nt⟩]) E2 (tn + 1) ec2 v4 hS (by first | rfl | (rw [List.length_append, ← HTN.out]; rfl) | exact HTN.out) (by omega) HE2.out).mono ?_
                rintro e v9 ⟨rfl, lh⟩
                rw [HVy.out]
                have hS : (fun W : World => Later wr W) v9 := Later.trans hS lh
                refine hK _ _ hS ?_
                clear hK lh
                (try simp only [Act.put, List.setIfInBounds_toArray, List.set_cons_zero, List.set_cons_succ])
                refine wpAnyZ_all (rs := [12]) (by kernel_rfl) (by simp) (fun i hi => ?_)
                simp only [List.mem_cons, List.not_mem_nil, or_false] at hi
                subst hi
                refine stepZl (o := { dst := some 17, op := _, type := _, pos := _, after := _, guard := _ }) rfl (fun K hK => ?_)
                go_simp
                refine hK _ _ ?_
                clear hK
                (try simp only [Act.put, List.setIfInBounds_toArray, List.set_cons_zero, List.set_cons_succ])
                refine wpAnyZ_done (by kernel_rfl) ?_ _
                go_wp2_with fail
                go_meet
                all_goals first | exact ⟨rfl, _, rfl, hS⟩ | exact ⟨rfl, rfl, _, rfl, hS⟩
              · skip
                refine stepZ (o := { dst := some 102, op := _, type := _, pos := _, after := _, guard := _ }) rfl (fun K hK => ?_)
                go_simp
                obtain ⟨lq, hl⟩ : ∃ x, (v1).heap.size = x := ⟨_, rfl⟩
                obtain ⟨v2, hwl⟩ : ∃ x, (v1).alloc (.cells (tcs nm op vt vi vs false nt) 28) = x := ⟨_, rfl⟩
                have ll : Later v1 v2 := hwl ▸ Later.new _ _
                have HLq := Lib.hid (show Has v2 (some ⟨lq, 0, none⟩) (ft [⟨nm, op, (vt, vi, vs), false, nt⟩]) from (hwl ▸ Blk.new v1 (tcs nm op vt vi vs false nt) 28 lq hl.symm : Blk v2 lq (tcs nm op vt vi vs false nt) 28).has)
                try rw [hl]
                rw [hwl]
                have HSZq := Lib.hid (show lq < v2.heap.size from Blk.lt (hwl ▸ Blk.new v1 (tcs nm op vt vi vs false nt) 28 lq hl.symm : Blk v2 lq (tcs nm op vt vi vs false nt) 28))
                have HLqX := Lib.hid (HasX.mk2 (e := le) HLq.out (by have := (own_at (q := le) HLE_.out rfl).2; omega))
                have HLE_ := Lib.hid (own_later HLE_.out ll)
                have hS : (fun W : World => Later wr W) v2 := Later.trans hS ll
                refine hK _ _ hS ?_
                clear hK hwl ll hl
                (try simp only [Act.put, List.setIfInBounds_toArray, List.set_cons_zero, List.set_cons_succ])
                refine wpAnyZ_all (rs := [3]) (by kernel_rfl) (by simp) (fun i hi => ?_)
                simp only [List.mem_cons, List.not_mem_nil, or_false] at hi
                subst hi
                refine stepZ (o := { dst := some 100, op := _, type := _, pos := _, after := _, guard := _ }) rfl (fun K hK => ?_)
                refine step_append_x rfl (.tmp 98) (.tmp 99) 23 rfl wr.heap.size 28 _ 7 64 Tryd.underlying23 info_t rfl (by decide) _ 0 [] rfl HLE_.out tb toff tn tc (ft l) rfl (HAT.out.later ((HLO.out.trans HLA.out).trans hS)) (by rw [ft_length, ← HTN.out]) (ft_one _) (by unfold maxLen; omega) (by omega) (Later.size hS) ?_
                rintro E1 ec1 v3 ho hgr hbl hat hnl
                rw [Nat.zero_add] at ho hat
                rw [List.nil_append] at ho
                try rw [Nat.zero_add]
                have HE1 := Lib.hid ho
                have HLq := Lib.hid (HasX.grown (o := some le) (o' := (Value.slice E1 tn ec1).ownBlock) HLqX.out hgr hat).has
                have hS : (fun W : World => Later wr W) v3 := Later.of ((Later.below hS).trans hbl)
                refine hK _ _ hS ?_
                clear hK ho hgr hbl hat hnl
                (try simp only [Act.put, List.setIfInBounds_toArray, List.set_cons_zero, List.set_cons_succ])
                refine wpAnyZ_all (rs := [6]) (by kernel_rfl) (by simp) (fun i hi => ?_)
                simp only [List.mem_cons, List.not_mem_nil, or_false] at hi
                subst hi
                refine stepZ (o := { dst := some 103, op := _, type := _, pos := _, after := _, guard := _ }) rfl (fun K hK => ?_)
                refine step_append_x rfl (.tmp 100) (.tmp 102) 23 rfl wr.heap.size 28 _ 7 64 Tryd.underlying23 info_t rfl (by decide) _ tn (ft l) rfl HE1.out lq 0 1 1 (ft [⟨nm, op, (vt, vi, vs), false, nt⟩]) rfl HLq.out rfl (ft_one _) (by unfold maxLen; omega) (by omega) (Later.size hS) ?_
                rintro E2 ec2 v4 ho hgr hbl hat hnl
                have HE2 := Lib.hid (show Has v4 E2 (ft (l ++ [⟨nm, op, (vt, vi, vs), false, nt⟩])) by rw [ft_append]; exact (HasX.own ho (o := none) (fun _ h => by cases h)).has)
                have hS : (fun W : World => Later wr W) v4 := Later.of ((Later.below hS).trans hbl)
                refine hK _ _ hS ?_
                clear hK ho hgr hbl hat hnl
                (try simp only [Act.put, List.setIfInBounds_toArray, List.set_cons_zero, List.set_cons_succ])
                refine wpAnyZ_all (rs := [11]) (by kernel_rfl) (by simp) (fun i hi => ?_)
                simp only [List.mem_cons, List.not_mem_nil, or_false] at hi
                subst hi
                refine stepZ (o := { dst := some 108, op := _, type := _, pos := _, after := _, guard := _ }) rfl (fun K hK => ?_)
                go_simp
                refine (HPRW.out (l ++ [⟨nm, op, (vt, vi, vs), false, nt⟩]) E2 (tn + 1) ec2 v4 hS (by first | rfl | (rw [List.length_append, ← HTN.out]; rfl) | exact HTN.out) (by omega) HE2.out).mono ?_
                rintro e v9 ⟨rfl, lh⟩
                rw [HVy.out]
                have hS : (fun W : World => Later wr W) v9 := Later.trans hS lh
                refine hK _ _ hS ?_
                clear hK lh
                (try simp only [Act.put, List.setIfInBounds_toArray, List.set_cons_zero, List.set_cons_succ])
                refine wpAnyZ_all (rs := [12]) (by kernel_rfl) (by simp) (fun i hi => ?_)
                simp only [List.mem_cons, List.not_mem_nil, or_false] at hi
                subst hi
                refine stepZl (o := { dst := some 17, op := _, type := _, pos := _, after := _, guard := _ }) rfl (fun K hK => ?_)
                go_simp
                refine hK _ _ ?_
                clear hK
                (try simp only [Act.put, List.setIfInBounds_toArray, List.set_cons_zero, List.set_cons_succ])
                refine wpAnyZ_done (by kernel_rfl) ?_ _
                go_wp2_with fail
                go_meet
                all_goals first | exact ⟨rfl, _, rfl, hS⟩ | exact ⟨rfl, rfl, _, rfl, hS⟩
            · skip
              refine stepZ (o := { dst := some 102, op := _, type := _, pos := _, after := _, guard := _ }) rfl (fun K hK => ?_)
              go_simp
              obtain ⟨lq, hl⟩ : ∃ x, (v0).heap.size = x := ⟨_, rfl⟩
              obtain ⟨v1, hwl⟩ : ∃ x, (v0).alloc (.cells (tcs nm op vt vi vs false nt) 28) = x := ⟨_, rfl⟩
              have ll : Later v0 v1 := hwl ▸ Later.new _ _
              have HLq := Lib.hid (show Has v1 (some ⟨lq, 0, none⟩) (ft [⟨nm, op, (vt, vi, vs), false, nt⟩]) from (hwl ▸ Blk.new v0 (tcs nm op vt vi vs false nt) 28 lq hl.symm : Blk v1 lq (tcs nm op vt vi vs false nt) 28).has)
              try rw [hl]
              rw [hwl]
              have HSZq := Lib.hid (show lq < v1.heap.size from Blk.lt (hwl ▸ Blk.new v0 (tcs nm op vt vi vs false nt) 28 lq hl.symm : Blk v1 lq (tcs nm op vt vi vs false nt) 28))
              have hS : (fun W : World => Later wr W) v1 := Later.trans hS ll
              refine hK _ _ hS ?_
              clear hK hwl ll hl
              (try simp only [Act.put, List.setIfInBounds_toArray, List.set_cons_zero, List.set_cons_succ])
              refine wpAnyZ_all (rs := [1]) (by kernel_rfl) (by simp) (fun i hi => ?_)
              simp only [List.mem_cons, List.not_mem_nil, or_false] at hi
              subst hi
              refine stepZ (o := { dst := some 98, op := _, type := _, pos := _, after := _, guard := _ }) rfl (fun K hK => ?_)
              go_simp
              obtain ⟨le, hl⟩ : ∃ x, (v1).heap.size = x := ⟨_, rfl⟩
              obtain ⟨v2, hwl⟩ : ∃ x, (v1).alloc (.cells #[] 28) = x := ⟨_, rfl⟩
              have ll : Later v1 v2 := hwl ▸ Later.new _ _
              have HLE_ := Lib.hid (show v2.ownsRow wr.heap.size 28 7 (.slice (some ⟨le, 0, none⟩) 0 0) 0 [] from ⟨rfl, .inr ⟨le, 0, #[], rfl, by rw [← hl]; exact Later.size hS, (hwl ▸ Blk.new v1 #[] 28 le hl.symm : Blk v2 le #[] 28), Nat.le_refl _, by unfold maxLen; omega, rfl, rfl⟩⟩)
              try rw [hl]
              rw [hwl]
              have HLqX := Lib.hid (HasX.mk2 (e := le) (HLq.out.later ll) (by have := HSZq.out; omega))
              have hS : (fun W : World => Later wr W) v2 := Later.trans hS ll
              refine hK _ _ hS ?_
              clear hK hwl ll hl
              (try simp only [Act.put, List.setIfInBounds_toArray, List.set_cons_zero, List.set_cons_succ])
              refine wpAnyZ_all (rs := [3]) (by kernel_rfl) (by simp) (fun i hi => ?_)
              simp only [List.mem_cons, List.not_mem_nil, or_false] at hi
              subst hi
              refine stepZ (o := { dst := some 100, op := _, type := _, pos := _, after := _, guard := _ }) rfl (fun K hK => ?_)
              refine step_append_x rfl (.tmp 98) (.tmp 99) 23 rfl wr.heap.size 28 _ 7 64 Tryd.underlying23 info_t rfl (by decide) _ 0 [] rfl HLE_.out tb toff tn tc (ft l) rfl (HAT.out.later ((HLO.out.trans HLA.out).trans hS)) (by rw [ft_length, ← HTN.out]) (ft_one _) (by unfold maxLen; omega) (by omega) (Later.size hS) ?_
              rintro E1 ec1 v3 ho hgr hbl hat hnl
              rw [Nat.zero_add] at ho hat
              rw [List.nil_append] at ho
              try rw [Nat.zero_add]
              have HE1 := Lib.hid ho
              have HLq := Lib.hid (HasX.grown (o := some le) (o' := (Value.slice E1 tn ec1).ownBlock) HLqX.out hgr hat).has
              have hS : (fun W : World => Later wr W) v3 := Later.of ((Later.below hS).trans hbl)
              refine hK _ _ hS ?_
              clear hK ho hgr hbl hat hnl
              (try simp only [Act.put, List.setIfInBounds_toArray, List.set_cons_zero, List.set_cons_succ])
              refine wpAnyZ_all (rs := [6]) (by kernel_rfl) (by simp) (fun i hi => ?_)
              simp only [List.mem_cons, List.not_mem_nil, or_false] at hi
              subst hi
              refine stepZ (o := { dst := some 103, op := _, type := _, pos := _, after := _, guard := _ }) rfl (fun K hK => ?_)
              refine step_append_x rfl (.tmp 100) (.tmp 102) 23 rfl wr.heap.size 28 _ 7 64 Tryd.underlying23 info_t rfl (by decide) _ tn (ft l) rfl HE1.out lq 0 1 1 (ft [⟨nm, op, (vt, vi, vs), false, nt⟩]) rfl HLq.out rfl (ft_one _) (by unfold maxLen; omega) (by omega) (Later.size hS) ?_
              rintro E2 ec2 v4 ho hgr hbl hat hnl
              have HE2 := Lib.hid (show Has v4 E2 (ft (l ++ [⟨nm, op, (vt, vi, vs), false, nt⟩])) by rw [ft_append]; exact (HasX.own ho (o := none) (fun _ h => by cases h)).has)
              have hS : (fun W : World => Later wr W) v4 := Later.of ((Later.below hS).trans hbl)
              refine hK _ _ hS ?_
              clear hK ho hgr hbl hat hnl
              (try simp only [Act.put, List.setIfInBounds_toArray, List.set_cons_zero, List.set_cons_succ])
              refine wpAnyZ_all (rs := [11]) (by kernel_rfl) (by simp) (fun i hi => ?_)
              simp only [List.mem_cons, List.not_mem_nil, or_false] at hi
              subst hi
              refine stepZ (o := { dst := some 108, op := _, type := _, pos := _, after := _, guard := _ }) rfl (fun K hK => ?_)
              go_simp
              refine (HPRW.out (l ++ [⟨nm, op, (vt, vi, vs), false, nt⟩]) E2 (tn + 1) ec2 v4 hS (by first | rfl | (rw [List.length_append, ← HTN.out]; rfl) | exact HTN.out) (by omega) HE2.out).mono ?_
              rintro e v9 ⟨rfl, lh⟩
              rw [HVy.out]
              have hS : (fun W : World => Later wr W) v9 := Later.trans hS lh
              refine hK _ _ hS ?_
              clear hK lh
              (try simp only [Act.put, List.setIfInBounds_toArray, List.set_cons_zero, List.set_cons_succ])
              refine wpAnyZ_all (rs := [12]) (by kernel_rfl) (by simp) (fun i hi => ?_)
              simp only [List.mem_cons, List.not_mem_nil, or_false] at hi
              subst hi
              refine stepZl (o := { dst := some 17, op := _, type := _, pos := _, after := _, guard := _ }) rfl (fun K hK => ?_)
              go_simp
              refine hK _ _ ?_
              clear hK
              (try simp only [Act.put, List.setIfInBounds_toArray, List.set_cons_zero, List.set_cons_succ])
              refine wpAnyZ_done (by kernel_rfl) ?_ _
              go_wp2_with fail
              go_meet
              all_goals first | exact ⟨rfl, _, rfl, hS⟩ | exact ⟨rfl, rfl, _, rfl, hS⟩
          case rest =>
            obtain ⟨rfl, x22, rfl, lx⟩ := hcut
            have hS : (fun W : World => Later wr W) x22 := lx
            go_upto_region 23 with fail
            go_cut [18] from 109 to 120 (fun av wx => av = .int .i64 z ∧ ∃ W, W = wx ∧ Later wr W)
            case first =>
              refine wp_region_Z (S := (fun W : World => Later wr W)) 12 (by kernel_rfl) ?_
              have hS : (fun W : World => Later wr W) (x22).drew := Later.trans hS (Later.refl _).drew
              obtain ⟨v0, hwd⟩ : ∃ x, (x22).drew = x := ⟨_, rfl⟩
              rw [hwd] at hS ⊢
              clear hwd
              refine wpAnyZ_take (i := 0) (oi := { dst := some 109, op := _, type := _, pos := _, after := _, guard := _ }) (v := ?_) rfl (by kernel_rfl) (by kernel_rfl) (by kernel_rfl) (by kernel_rfl) (fun _ _ _ h => h) (Or.inl ⟨by rfl, ?_⟩) hS ?_
              rotate_left
              focus ((intro w hSw; (try dsimp only at hSw); have d0 := HD0.out w hSw; have d1 := HD1.out w hSw; have d2 := HD2.out w hSw; go_simp); (try with_reducible rfl))
              (try simp only [Act.put, List.setIfInBounds_toArray, List.set_cons_zero, List.set_cons_succ])
              refine wpAnyZ_take (i := 2) (oi := { dst := some 111, op := _, type := _, pos := _, after := _, guard := _ }) (v := ?_) rfl (by kernel_rfl) (by kernel_rfl) (by kernel_rfl) (by kernel_rfl) (fun _ _ _ h => h) (Or.inl ⟨by rfl, ?_⟩) hS ?_
              rotate_left
              focus ((intro w hSw; (try dsimp only at hSw); have d0 := HD0.out w hSw; have d1 := HD1.out w hSw; have d2 := HD2.out w hSw; go_simp); (try with_reducible rfl))
              (try simp only [Act.put, List.setIfInBounds_toArray, List.set_cons_zero, List.set_cons_succ])
              refine wpAnyZ_take (i := 4) (oi := { dst := some 113, op := _, type := _, pos := _, after := _, guard := _ }) (v := ?_) rfl (by kernel_rfl) (by kernel_rfl) (by kernel_rfl) (by kernel_rfl) (fun _ _ _ h => h) (Or.inl ⟨by rfl, ?_⟩) hS ?_
              rotate_left
              focus ((intro w hSw; (try dsimp only at hSw); have d0 := HD0.out w hSw; have d1 := HD1.out w hSw; have d2 := HD2.out w hSw; have b0 := (HA3.out.later (HLA.out.trans hSw)).cell 0 _ rfl; have b1 := (HA3.out.later (HLA.out.trans hSw)).cell 1 _ rfl; have b2 := (HA3.out.later (HLA.out.trans hSw)).cell 2 _ rfl; have b3 := (HA3.out.later (HLA.out.trans hSw)).cell 3 _ rfl; have b4 := (HA3.out.later (HLA.out.trans hSw)).cell 4 _ rfl; have b5 := (HA3.out.later (HLA.out.trans hSw)).cell 5 _ rfl; have b6 := (HA3.out.later (HLA.out.trans hSw)).cell 6 _ rfl; go_simp); (try with_reducible rfl))
              (try simp only [Act.put, List.setIfInBounds_toArray, List.set_cons_zero, List.set_cons_succ])
              refine wpAnyZ_take (i := 7) (oi := { dst := some 116, op := _, type := _, pos := _, after := _, guard := _ }) (v := ?_) rfl (by kernel_rfl) (by kernel_rfl) (by kernel_rfl) (by kernel_rfl) (fun _ _ _ h => h) (Or.inl ⟨by rfl, ?_⟩) hS ?_
              rotate_left
              focus ((intro w hSw; (try dsimp only at hSw); have d0 := HD0.out w hSw; have d1 := HD1.out w hSw; have d2 := HD2.out w hSw; go_simp); (try with_reducible rfl))
              (try simp only [Act.put, List.setIfInBounds_toArray, List.set_cons_zero, List.set_cons_succ])
              refine wpAnyZ_take (i := 8) (oi := { dst := some 117, op := _, type := _, pos := _, after := _, guard := _ }) (v := ?_) rfl (by kernel_rfl) (by kernel_rfl) (by kernel_rfl) (by kernel_rfl) (fun _ _ _ h => h) (Or.inl ⟨by rfl, ?_⟩) hS ?_
              rotate_left
              focus ((intro w hSw; (try dsimp only at hSw); have d0 := HD0.out w hSw; have d1 := HD1.out w hSw; have d2 := HD2.out w hSw; go_simp); (try with_reducible rfl))
              (try simp only [Act.put, List.setIfInBounds_toArray, List.set_cons_zero, List.set_cons_succ])
              refine wpAnyZ_take (i := 9) (oi := { dst := some 118, op := _, type := _, pos := _, after := _, guard := _ }) (v := ?_) rfl (by kernel_rfl) (by kernel_rfl) (by kernel_rfl) (by kernel_rfl) (fun _ _ _ h => h) (Or.inl ⟨by rfl, ?_⟩) hS ?_
              rotate_left
              focus ((intro w hSw; (try dsimp only at hSw); have d0 := HD0.out w hSw; have d1 := HD1.out w hSw; have d2 := HD2.out w hSw; go_simp); (try with_reducible rfl))
              (try simp only [Act.put, List.setIfInBounds_toArray, List.set_cons_zero, List.set_cons_succ])
              refine wpAnyZ_take (i := 10) (oi := { dst := some 119, op := _, type := _, pos := _, after := _, guard := _ }) (v := ?_) rfl (by kernel_rfl) (by kernel_rfl) (by kernel_rfl) (by kernel_rfl) (fun _ _ _ h => h) (Or.inl ⟨by rfl, ?_⟩) hS ?_
              rotate_left
              focus ((intro w hSw; (try dsimp only at hSw); have d0 := HD0.out w hSw; have d1 := HD1.out w hSw; have d2 := HD2.out w hSw; go_simp); (try with_reducible rfl))
              (try simp only [Act.put, List.setIfInBounds_toArray, List.set_cons_zero, List.set_cons_succ])
              refine wpAnyZ_all (rs := [1, 5]) (by kernel_rfl) (by simp) (fun i hi => ?_)
              simp only [List.mem_cons, List.not_mem_nil, or_false] at hi
              rcases hi with rfl | rfl
              · skip
                refine stepZ (o := { dst := some 110, op := _, type := _, pos := _, after := _, guard := _ }) rfl (fun K hK => ?_)
                go_simp
                obtain ⟨le, hl⟩ : ∃ x, (v0).heap.size = x := ⟨_, rfl⟩
                obtain ⟨v1, hwl⟩ : ∃ x, (v0).alloc (.cells #[] 28) = x := ⟨_, rfl⟩
                have ll : Later v0 v1 := hwl ▸ Later.new _ _
                have HLE_ := Lib.hid (show v1.ownsRow wr.heap.size 28 7 (.slice (some ⟨le, 0, none⟩) 0 0) 0 [] from ⟨rfl, .inr ⟨le, 0, #[], rfl, by rw [← hl]; exact Later.size hS, (hwl ▸ Blk.new v0 #[] 28 le hl.symm : Blk v1 le #[] 28), Nat.le_refl _, by unfold maxLen; omega, rfl, rfl⟩⟩)
                try rw [hl]
                rw [hwl]
                have hS : (fun W : World => Later wr W) v1 := Later.trans hS ll
                refine hK _ _ hS ?_
                clear hK hwl ll hl
                (try simp only [Act.put, List.setIfInBounds_toArray, List.set_cons_zero, List.set_cons_succ])
                refine wpAnyZ_all (rs := [3, 5]) (by kernel_rfl) (by simp) (fun i hi => ?_)
                simp only [List.mem_cons, List.not_mem_nil, or_false] at hi
                rcases hi with rfl | rfl
                · skip
                  refine stepZ (o := { dst := some 112, op := _, type := _, pos := _, after := _, guard := _ }) rfl (fun K hK => ?_)
                  refine step_append_x rfl (.tmp 110) (.tmp 111) 23 rfl wr.heap.size 28 _ 7 64 Tryd.underlying23 info_t rfl (by decide) _ 0 [] rfl HLE_.out tb toff tn tc (ft l) rfl (HAT.out.later ((HLO.out.trans HLA.out).trans hS)) (by rw [ft_length, ← HTN.out]) (ft_one _) (by unfold maxLen; omega) (by omega) (Later.size hS) ?_
                  rintro E1 ec1 v2 ho hgr hbl hat hnl
                  rw [Nat.zero_add] at ho hat
                  rw [List.nil_append] at ho
                  try rw [Nat.zero_add]
                  have HE1 := Lib.hid ho
                  have hS : (fun W : World => Later wr W) v2 := Later.of ((Later.below hS).trans hbl)
                  refine hK _ _ hS ?_
                  clear hK ho hgr hbl hat hnl
                  (try simp only [Act.put, List.setIfInBounds_toArray, List.set_cons_zero, List.set_cons_succ])
                  refine wpAnyZ_all (rs := [5]) (by kernel_rfl) (by simp) (fun i hi => ?_)
                  simp only [List.mem_cons, List.not_mem_nil, or_false] at hi
                  subst hi
                  refine stepZ (o := { dst := some 114, op := _, type := _, pos := _, after := _, guard := _ }) rfl (fun K hK => ?_)
                  go_simp
                  obtain ⟨lq, hl⟩ : ∃ x, (v2).heap.size = x := ⟨_, rfl⟩
                  obtain ⟨v3, hwl⟩ : ∃ x, (v2).alloc (.cells (tcs nm op vt vi vs true nt) 28) = x := ⟨_, rfl⟩
                  have ll : Later v2 v3 := hwl ▸ Later.new _ _
                  have HLq := Lib.hid (show Has v3 (some ⟨lq, 0, none⟩) (ft [⟨nm, op, (vt, vi, vs), true, nt⟩]) from (hwl ▸ Blk.new v2 (tcs nm op vt vi vs true nt) 28 lq hl.symm : Blk v3 lq (tcs nm op vt vi vs true nt) 28).has)
                  try rw [hl]
                  rw [hwl]
                  have HSZq := Lib.hid (show lq < v3.heap.size from Blk.lt (hwl ▸ Blk.new v2 (tcs nm op vt vi vs true nt) 28 lq hl.symm : Blk v3 lq (tcs nm op vt vi vs true nt) 28))
                  have HE1 := Lib.hid (own_later HE1.out ll)
                  have hS : (fun W : World => Later wr W) v3 := Later.trans hS ll
                  refine hK _ _ hS ?_
                  clear hK hwl ll hl
                  (try simp only [Act.put, List.setIfInBounds_toArray, List.set_cons_zero, List.set_cons_succ])
                  refine wpAnyZ_all (rs := [6]) (by kernel_rfl) (by simp) (fun i hi => ?_)
                  simp only [List.mem_cons, List.not_mem_nil, or_false] at hi
                  subst hi
                  refine stepZ (o := { dst := some 115, op := _, type := _, pos := _, after := _, guard := _ }) rfl (fun K hK => ?_)
                  refine step_append_x rfl (.tmp 112) (.tmp 114) 23 rfl wr.heap.size 28 _ 7 64 Tryd.underlying23 info_t rfl (by decide) _ tn (ft l) rfl HE1.out lq 0 1 1 (ft [⟨nm, op, (vt, vi, vs), true, nt⟩]) rfl HLq.out rfl (ft_one _) (by unfold maxLen; omega) (by omega) (Later.size hS) ?_
                  rintro E2 ec2 v4 ho hgr hbl hat hnl
                  have HE2 := Lib.hid (show Has v4 E2 (ft (l ++ [⟨nm, op, (vt, vi, vs), true, nt⟩])) by rw [ft_append]; exact (HasX.own ho (o := none) (fun _ h => by cases h)).has)
                  have hS : (fun W : World => Later wr W) v4 := Later.of ((Later.below hS).trans hbl)
                  refine hK _ _ hS ?_
                  clear hK ho hgr hbl hat hnl
                  (try simp only [Act.put, List.setIfInBounds_toArray, List.set_cons_zero, List.set_cons_succ])
                  refine wpAnyZ_all (rs := [11]) (by kernel_rfl) (by simp) (fun i hi => ?_)
                  simp only [List.mem_cons, List.not_mem_nil, or_false] at hi
                  subst hi
                  refine stepZ (o := { dst := some 120, op := _, type := _, pos := _, after := _, guard := _ }) rfl (fun K hK => ?_)
                  go_simp
                  refine (HPRW.out (l ++ [⟨nm, op, (vt, vi, vs), true, nt⟩]) E2 (tn + 1) ec2 v4 hS (by first | rfl | (rw [List.length_append, ← HTN.out]; rfl) | exact HTN.out) (by omega) HE2.out).mono ?_
                  rintro e v9 ⟨rfl, lh⟩
                  rw [HVz.out]
                  have hS : (fun W : World => Later wr W) v9 := Later.trans hS lh
                  refine hK _ _ hS ?_
                  clear hK lh
                  (try simp only [Act.put, List.setIfInBounds_toArray, List.set_cons_zero, List.set_cons_succ])
                  refine wpAnyZ_all (rs := [12]) (by kernel_rfl) (by simp) (fun i hi => ?_)
                  simp only [List.mem_cons, List.not_mem_nil, or_false] at hi
                  subst hi
                  refine stepZl (o := { dst := some 18, op := _, type := _, pos := _, after := _, guard := _ }) rfl (fun K hK => ?_)
                  go_simp
                  refine hK _ _ ?_
                  clear hK
                  (try simp only [Act.put, List.setIfInBounds_toArray, List.set_cons_zero, List.set_cons_succ])
                  refine wpAnyZ_done (by kernel_rfl) ?_ _
                  go_wp2_with fail
                  go_meet
                  all_goals first | exact ⟨rfl, _, rfl, hS⟩ | exact ⟨rfl, rfl, _, rfl, hS⟩
                · skip
                  refine stepZ (o := { dst := some 114, op := _, type := _, pos := _, after := _, guard := _ }) rfl (fun K hK => ?_)
                  go_simp
                  obtain ⟨lq, hl⟩ : ∃ x, (v1).heap.size = x := ⟨_, rfl⟩
                  obtain ⟨v2, hwl⟩ : ∃ x, (v1).alloc (.cells (tcs nm op vt vi vs true nt) 28) = x := ⟨_, rfl⟩
                  have ll : Later v1 v2 := hwl ▸ Later.new _ _
                  have HLq := Lib.hid (show Has v2 (some ⟨lq, 0, none⟩) (ft [⟨nm, op, (vt, vi, vs), true, nt⟩]) from (hwl ▸ Blk.new v1 (tcs nm op vt vi vs true nt) 28 lq hl.symm : Blk v2 lq (tcs nm op vt vi vs true nt) 28).has)
                  try rw [hl]
                  rw [hwl]
                  have HSZq := Lib.hid (show lq < v2.heap.size from Blk.lt (hwl ▸ Blk.new v1 (tcs nm op vt vi vs true nt) 28 lq hl.symm : Blk v2 lq (tcs nm op vt vi vs true nt) 28))
                  have HLqX := Lib.hid (HasX.mk2 (e := le) HLq.out (by have := (own_at (q := le) HLE_.out rfl).2; omega))
                  have HLE_ := Lib.hid (own_later HLE_.out ll)
                  have hS : (fun W : World => Later wr W) v2 := Later.trans hS ll
                  refine hK _ _ hS ?_
                  clear hK hwl ll hl
                  (try simp only [Act.put, List.setIfInBounds_toArray, List.set_cons_zero, List.set_cons_succ])
                  refine wpAnyZ_all (rs := [3]) (by kernel_rfl) (by simp) (fun i hi => ?_)
                  simp only [List.mem_cons, List.not_mem_nil, or_false] at hi
                  subst hi
                  refine stepZ (o := { dst := some 112, op := _, type := _, pos := _, after := _, guard := _ }) rfl (fun K hK => ?_)
                  refine step_append_x rfl (.tmp 110) (.tmp 111) 23 rfl wr.heap.size 28 _ 7 64 Tryd.underlying23 info_t rfl (by decide) _ 0 [] rfl HLE_.out tb toff tn tc (ft l) rfl (HAT.out.later ((HLO.out.trans HLA.out).trans hS)) (by rw [ft_length, ← HTN.out]) (ft_one _) (by unfold maxLen; omega) (by omega) (Later.size hS) ?_
                  rintro E1 ec1 v3 ho hgr hbl hat hnl
                  rw [Nat.zero_add] at ho hat
                  rw [List.nil_append] at ho
                  try rw [Nat.zero_add]
                  have HE1 := Lib.hid ho
                  have HLq := Lib.hid (HasX.grown (o := some le) (o' := (Value.slice E1 tn ec1).ownBlock) HLqX.out hgr hat).has
                  have hS : (fun W : World => Later wr W) v3 := Later.of ((Later.below hS).trans hbl)
                  refine hK _ _ hS ?_
                  clear hK ho hgr hbl hat hnl
                  (try simp only [Act.put, List.setIfInBounds_toArray, List.set_cons_zero, List.set_cons_succ])
                  refine wpAnyZ_all (rs := [6]) (by kernel_rfl) (by simp) (fun i hi => ?_)
                  simp only [List.mem_cons, List.not_mem_nil, or_false] at hi
                  subst hi
                  refine stepZ (o := { dst := some 115, op := _, type := _, pos := _, after := _, guard := _ }) rfl (fun K hK => ?_)
                  refine step_append_x rfl (.tmp 112) (.tmp 114) 23 rfl wr.heap.size 28 _ 7 64 Tryd.underlying23 info_t rfl (by decide) _ tn (ft l) rfl HE1.out lq 0 1 1 (ft [⟨nm, op, (vt, vi, vs), true, nt⟩]) rfl HLq.out rfl (ft_one _) (by unfold maxLen; omega) (by omega) (Later.size hS) ?_
                  rintro E2 ec2 v4 ho hgr hbl hat hnl
                  have HE2 := Lib.hid (show Has v4 E2 (ft (l ++ [⟨nm, op, (vt, vi, vs), true, nt⟩])) by rw [ft_append]; exact (HasX.own ho (o := none) (fun _ h => by cases h)).has)
                  have hS : (fun W : World => Later wr W) v4 := Later.of ((Later.below hS).trans hbl)
                  refine hK _ _ hS ?_
                  clear hK ho hgr hbl hat hnl
                  (try simp only [Act.put, List.setIfInBounds_toArray, List.set_cons_zero, List.set_cons_succ])
                  refine wpAnyZ_all (rs := [11]) (by kernel_rfl) (by simp) (fun i hi => ?_)
                  simp only [List.mem_cons, List.not_mem_nil, or_false] at hi
                  subst hi
                  refine stepZ (o := { dst := some 120, op := _, type := _, pos := _, after := _, guard := _ }) rfl (fun K hK => ?_)
                  go_simp
                  refine (HPRW.out (l ++ [⟨nm, op, (vt, vi, vs), true, nt⟩]) E2 (tn + 1) ec2 v4 hS (by first | rfl | (rw [List.length_append, ← HTN.out]; rfl) | exact HTN.out) (by omega) HE2.out).mono ?_
                  rintro e v9 ⟨rfl, lh⟩
                  rw [HVz.out]
                  have hS : (fun W : World => Later wr W) v9 := Later.trans hS lh
                  refine hK _ _ hS ?_
                  clear hK lh
                  (try simp only [Act.put, List.setIfInBounds_toArray, List.set_cons_zero, List.set_cons_succ])
                  refine wpAnyZ_all (rs := [12]) (by kernel_rfl) (by simp) (fun i hi => ?_)
                  simp only [List.mem_cons, List.not_mem_nil, or_false] at hi
                  subst hi
                  refine stepZl (o := { dst := some 18, op := _, type := _, pos := _, after := _, guard := _ }) rfl (fun K hK => ?_)
                  go_simp
                  refine hK _ _ ?_
                  clear hK
                  (try simp only [Act.put, List.setIfInBounds_toArray, List.set_cons_zero, List.set_cons_succ])
                  refine wpAnyZ_done (by kernel_rfl) ?_ _
                  go_wp2_with fail
                  go_meet
                  all_goals first | exact ⟨rfl, _, rfl, hS⟩ | exact ⟨rfl, rfl, _, rfl, hS⟩
              · skip
                refine stepZ (o := { dst := some 114, op := _, type := _, pos := _, after := _, guard := _ }) rfl (fun K hK => ?_)
                go_simp
                obtain ⟨lq, hl⟩ : ∃ x, (v0).heap.size = x := ⟨_, rfl⟩
                obtain ⟨v1, hwl⟩ : ∃ x, (v0).alloc (.cells (tcs nm op vt vi vs true nt) 28) = x := ⟨_, rfl⟩
                have ll : Later v0 v1 := hwl ▸ Later.new _ _
                have HLq := Lib.hid (show Has v1 (some ⟨lq, 0, none⟩) (ft [⟨nm, op, (vt, vi, vs), true, nt⟩]) from (hwl ▸ Blk.new v0 (tcs nm op vt vi vs true nt) 28 lq hl.symm : Blk v1 lq (tcs nm op vt vi vs true nt) 28).has)
                try rw [hl]
                rw [hwl]
                have HSZq := Lib.hid (show lq < v1.heap.size from Blk.lt (hwl ▸ Blk.new v0 (tcs nm op vt vi vs true nt) 28 lq hl.symm : Blk v1 lq (tcs nm op vt vi vs true nt) 28))
                have hS : (fun W : World => Later wr W) v1 := Later.trans hS ll
                refine hK _ _ hS ?_
                clear hK hwl ll hl
                (try simp only [Act.put, List.setIfInBounds_toArray, List.set_cons_zero, List.set_cons_succ])
                refine wpAnyZ_all (rs := [1]) (by kernel_rfl) (by simp) (fun i hi => ?_)
                simp only [List.mem_cons, List.not_mem_nil, or_false] at hi
                subst hi
                refine stepZ (o := { dst := some 110, op := _, type := _, pos := _, after := _, guard := _ }) rfl (fun K hK => ?_)
                go_simp
                obtain ⟨le, hl⟩ : ∃ x, (v1).heap.size = x := ⟨_, rfl⟩
                obtain ⟨v2, hwl⟩ : ∃ x, (v1).alloc (.cells #[] 28) = x := ⟨_, rfl⟩
                have ll : Later v1 v2 := hwl ▸ Later.new _ _
                have HLE_ := Lib.hid (show v2.ownsRow wr.heap.size 28 7 (.slice (some ⟨le, 0, none⟩) 0 0) 0 [] from ⟨rfl, .inr ⟨le, 0, #[], rfl, by rw [← hl]; exact Later.size hS, (hwl ▸ Blk.new v1 #[] 28 le hl.symm : Blk v2 le #[] 28), Nat.le_refl _, by unfold maxLen; omega, rfl, rfl⟩⟩)
                try rw [hl]
                rw [hwl]
                have HLqX := Lib.hid (HasX.mk2 (e := le) (HLq.out.later ll) (by have := HSZq.out; omega))
                have hS : (fun W : World => Later wr W) v2 := Later.trans hS ll
                refine hK _ _ hS ?_
                clear hK hwl ll hl
                (try simp only [Act.put, List.setIfInBounds_toArray, List.set_cons_zero, List.set_cons_succ])
                refine wpAnyZ_all (rs := [3]) (by kernel_rfl) (by simp) (fun i hi => ?_)
                simp only [List.mem_cons, List.not_mem_nil, or_false] at hi
                subst hi
                refine stepZ (o := { dst := some 112, op := _, type := _, pos := _, after := _, guard := _ }) rfl (fun K hK => ?_)
                refine step_append_x rfl (.tmp 110) (.tmp 111) 23 rfl wr.heap.size 28 _ 7 64 Tryd.underlying23 info_t rfl (by decide) _ 0 [] rfl HLE_.out tb toff tn tc (ft l) rfl (HAT.out.later ((HLO.out.trans HLA.out).trans hS)) (by rw [ft_length, ← HTN.out]) (ft_one _) (by unfold maxLen; omega) (by omega) (Later.size hS) ?_
                rintro E1 ec1 v3 ho hgr hbl hat hnl
                rw [Nat.zero_add] at ho hat
                rw [List.nil_append] at ho
                try rw [Nat.zero_add]
                have HE1 := Lib.hid ho
                have HLq := Lib.hid (HasX.grown (o := some le) (o' := (Value.slice E1 tn ec1).ownBlock) HLqX.out hgr hat).has
                have hS : (fun W : World => Later wr W) v3 := Later.of ((Later.below hS).trans hbl)
                refine hK _ _ hS ?_
                clear hK ho hgr hbl hat hnl
                (try simp only [Act.put, List.setIfInBounds_toArray, List.set_cons_zero, List.set_cons_succ])
                refine wpAnyZ_all (rs := [6]) (by kernel_rfl) (by simp) (fun i hi => ?_)
                simp only [List.mem_cons, List.not_mem_nil, or_false] at hi
                subst hi
                refine stepZ (o := { dst := some 115, op := _, type := _, pos := _, after := _, guard := _ }) rfl (fun K hK => ?_)
                refine step_append_x rfl (.tmp 112) (.tmp 114) 23 rfl wr.heap.size 28 _ 7 64 Tryd.underlying23 info_t rfl (by decide) _ tn (ft l) rfl HE1.out lq 0 1 1 (ft [⟨nm, op, (vt, vi, vs), true, nt⟩]) rfl HLq.out rfl (ft_one _) (by unfold maxLen; omega) (by omega) (Later.size hS) ?_
                rintro E2 ec2 v4 ho hgr hbl hat hnl
                have HE2 := Lib.hid (show Has v4 E2 (ft (l ++ [⟨nm, op, (vt, vi, vs), true, nt⟩])) by rw [ft_append]; exact (HasX.own ho (o := none) (fun _ h => by cases h)).has)
                have hS : (fun W : World => Later wr W) v4 := Later.of ((Later.below hS).trans hbl)
                refine hK _ _ hS ?_
                clear hK ho hgr hbl hat hnl
                (try simp only [Act.put, List.setIfInBounds_toArray, List.set_cons_zero, List.set_cons_succ])
                refine wpAnyZ_all (rs := [11]) (by kernel_rfl) (by simp) (fun i hi => ?_)
                simp only [List.mem_cons, List.not_mem_nil, or_false] at hi
                subst hi
                refine stepZ (o := { dst := some 120, op := _, type := _, pos := _, after := _, guard := _ }) rfl (fun K hK => ?_)
                go_simp
                refine (HPRW.out (l ++ [⟨nm, op, (vt, vi, vs), true, nt⟩]) E2 (tn + 1) ec2 v4 hS (by first | rfl | (rw [List.length_append, ← HTN.out]; rfl) | exact HTN.out) (by omega) HE2.out).mono ?_
                rintro e v9 ⟨rfl, lh⟩
                rw [HVz.out]
                have hS : (fun W : World => Later wr W) v9 := Later.trans hS lh
                refine hK _ _ hS ?_
                clear hK lh
                (try simp only [Act.put, List.setIfInBounds_toArray, List.set_cons_zero, List.set_cons_succ])
                refine wpAnyZ_all (rs := [12]) (by kernel_rfl) (by simp) (fun i hi => ?_)
                simp only [List.mem_cons, List.not_mem_nil, or_false] at hi
                subst hi
                refine stepZl (o := { dst := some 18, op := _, type := _, pos := _, after := _, guard := _ }) rfl (fun K hK => ?_)
                go_simp
                refine hK _ _ ?_
                clear hK
                (try simp only [Act.put, List.setIfInBounds_toArray, List.set_cons_zero, List.set_cons_succ])
                refine wpAnyZ_done (by kernel_rfl) ?_ _
                go_wp2_with fail
                go_meet
                all_goals first | exact ⟨rfl, _, rfl, hS⟩ | exact ⟨rfl, rfl, _, rfl, hS⟩
            case rest =>
              obtain ⟨rfl, x23, rfl, lx⟩ := hcut
              have hS : (fun W : World => Later wr W) x23 := lx
              go_upto_region 24 with fail
              refine wp_region_K (S := fun W => Later wr W) (R := Later) Later.refl (by kernel_rfl) ?_
              have hS : Later wr x23.drew := Later.trans hS (Later.refl _).drew
              refine wpAnyK_take Later.refl (fun _ _ _ h k => h.trans k) (fun _ _ h k => h.trans k) (i := 0) (oi := { dst := some 121, op := _, type := _, pos := _, after := _, guard := _ }) (v := ?_) rfl (by kernel_rfl) (by kernel_rfl) (by kernel_rfl) (fun _ _ _ h => h) (Or.inl (Or.inl ⟨by rfl, ?_⟩)) hS ?_
              rotate_left
              focus ((intro w hSw; (try dsimp only at hSw); have d0 := HD0.out w hSw; have d1 := HD1.out w hSw; have d2 := HD2.out w hSw; go_simp); (try with_reducible rfl))
              intro k1 hk_
              replace hS := hS.trans hk_
              (try simp only [Act.put, List.setIfInBounds_toArray, List.set_cons_zero, List.set_cons_succ])
              clear hk_
              refine wpAnyK_take Later.refl (fun _ _ _ h k => h.trans k) (fun _ _ h k => h.trans k) (i := 1) (oi := { dst := some 122, op := _, type := _, pos := _, after := _, guard := _ }) (v := ?_) rfl (by kernel_rfl) (by kernel_rfl) (by kernel_rfl) (fun _ _ _ h => h) (Or.inl (Or.inl ⟨by rfl, ?_⟩)) hS ?_
              rotate_left
              focus ((intro w hSw; (try dsimp only at hSw); have d0 := HD0.out w hSw; have d1 := HD1.out w hSw; have d2 := HD2.out w hSw; go_simp); (try with_reducible rfl))
              intro k2 hk_
              replace hS := hS.trans hk_
              (try simp only [Act.put, List.setIfInBounds_toArray, List.set_cons_zero, List.set_cons_succ])
              clear hk_
              refine wpAnyK_take Later.refl (fun _ _ _ h k => h.trans k) (fun _ _ h k => h.trans k) (i := 2) (oi := { dst := some 123, op := _, type := _, pos := _, after := _, guard := _ }) (v := ?_) rfl (by kernel_rfl) (by kernel_rfl) (by kernel_rfl) (fun _ _ _ h => h) (Or.inl (Or.inl ⟨by rfl, ?_⟩)) hS ?_
              rotate_left
              focus ((intro w hSw; (try dsimp only at hSw); have d0 := HD0.out w hSw; have d1 := HD1.out w hSw; have d2 := HD2.out w hSw; go_simp); (try with_reducible rfl))
              intro k3 hk_
              replace hS := hS.trans hk_
              (try simp only [Act.put, List.setIfInBounds_toArray, List.set_cons_zero, List.set_cons_succ])
              clear hk_
              refine wpAnyK_take Later.refl (fun _ _ _ h k => h.trans k) (fun _ _ h k => h.trans k) (i := 3) (oi := { dst := some 124, op := _, type := _, pos := _, after := _, guard := _ }) (v := ?_) rfl (by kernel_rfl) (by kernel_rfl) (by kernel_rfl) (fun _ _ _ h => h) (Or.inl (Or.inl ⟨by rfl, ?_⟩)) hS ?_
              rotate_left
              focus ((intro w hSw; (try dsimp only at hSw); have d0 := HD0.out w hSw; have d1 := HD1.out w hSw; have d2 := HD2.out w hSw; go_simp); (try with_reducible rfl))
              intro k4 hk_
              replace hS := hS.trans hk_
              (try simp only [Act.put, List.setIfInBounds_toArray, List.set_cons_zero, List.set_cons_succ])
              clear hk_
              refine wpAnyK_take Later.refl (fun _ _ _ h k => h.trans k) (fun _ _ h k => h.trans k) (i := 4) (oi := { dst := some 125, op := _, type := _, pos := _, after := _, guard := _ }) (v := ?_) rfl (by kernel_rfl) (by kernel_rfl) (by kernel_rfl) (fun _ _ _ h => h) (Or.inl (Or.inl ⟨by rfl, ?_⟩)) hS ?_
              rotate_left
              focus ((intro w hSw; (try dsimp only at hSw); have d0 := HD0.out w hSw; have d1 := HD1.out w hSw; have d2 := HD2.out w hSw; go_simp); (try with_reducible rfl))
              intro k5 hk_
              replace hS := hS.trans hk_
              (try simp only [Act.put, List.setIfInBounds_toArray, List.set_cons_zero, List.set_cons_succ])
              clear hk_
              refine wpAnyK_take Later.refl (fun _ _ _ h k => h.trans k) (fun _ _ h k => h.trans k) (i := 5) (oi := { dst := some 126, op := _, type := _, pos := _, after := _, guard := _ }) (v := ?_) rfl (by kernel_rfl) (by kernel_rfl) (by kernel_rfl) (fun _ _ _ h => h) (Or.inl (Or.inl ⟨by rfl, ?_⟩)) hS ?_
              rotate_left
              focus ((intro w hSw; (try dsimp only at hSw); have d0 := HD0.out w hSw; have d1 := HD1.out w hSw; have d2 := HD2.out w hSw; go_simp); (try with_reducible rfl))
              intro k6 hk_
              replace hS := hS.trans hk_
              (try simp only [Act.put, List.setIfInBounds_toArray, List.set_cons_zero, List.set_cons_succ])
              clear hk_
              refine wpAnyK_take Later.refl (fun _ _ _ h k => h.trans k) (fun _ _ h k => h.trans k) (i := 6) (oi := { dst := some 127, op := _, type := _, pos := _, after := _, guard := _ }) (v := ?_) rfl (by kernel_rfl) (by kernel_rfl) (by kernel_rfl) (fun _ _ _ h => h) (Or.inl (Or.inl ⟨by rfl, ?_⟩)) hS ?_
              rotate_left
              focus ((intro w hSw; (try dsimp only at hSw); have d0 := HD0.out w hSw; have d1 := HD1.out w hSw; have d2 := HD2.out w hSw; have b0 := (HA1.out.later (HLA.out.trans hSw)).cell 0 _ rfl; have b1 := (HA1.out.later (HLA.out.trans hSw)).cell 1 _ rfl; have b2 := (HA1.out.later (HLA.out.trans hSw)).cell 2 _ rfl; have b3 := (HA1.out.later (HLA.out.trans hSw)).cell 3 _ rfl; have b4 := (HA1.out.later (HLA.out.trans hSw)).cell 4 _ rfl; have b5 := (HA1.out.later (HLA.out.trans hSw)).cell 5 _ rfl; have b6 := (HA1.out.later (HLA.out.trans hSw)).cell 6 _ rfl; go_simp); (try with_reducible rfl))
              intro k7 hk_
              replace hS := hS.trans hk_
              (try simp only [Act.put, List.setIfInBounds_toArray, List.set_cons_zero, List.set_cons_succ])
              clear hk_
              refine wpAnyK_take Later.refl (fun _ _ _ h k => h.trans k) (fun _ _ h k => h.trans k) (i := 7) (oi := { dst := some 128, op := _, type := _, pos := _, after := _, guard := _ }) (v := ?_) rfl (by kernel_rfl) (by kernel_rfl) (by kernel_rfl) (fun _ _ _ h => h) (Or.inl (Or.inl ⟨by rfl, ?_⟩)) hS ?_
              rotate_left
              focus ((intro w hSw; (try dsimp only at hSw); have d0 := HD0.out w hSw; have d1 := HD1.out w hSw; have d2 := HD2.out w hSw; have b0 := (HA2.out.later (HLA.out.trans hSw)).cell 0 _ rfl; have b1 := (HA2.out.later (HLA.out.trans hSw)).cell 1 _ rfl; have b2 := (HA2.out.later (HLA.out.trans hSw)).cell 2 _ rfl; have b3 := (HA2.out.later (HLA.out.trans hSw)).cell 3 _ rfl; have b4 := (HA2.out.later (HLA.out.trans hSw)).cell 4 _ rfl; have b5 := (HA2.out.later (HLA.out.trans hSw)).cell 5 _ rfl; have b6 := (HA2.out.later (HLA.out.trans hSw)).cell 6 _ rfl; go_simp); (try with_reducible rfl))
              intro k8 hk_
              replace hS := hS.trans hk_
              (try simp only [Act.put, List.setIfInBounds_toArray, List.set_cons_zero, List.set_cons_succ])
              clear hk_
              refine wpAnyK_take Later.refl (fun _ _ _ h k => h.trans k) (fun _ _ h k => h.trans k) (i := 9) (oi := { dst := some 130, op := _, type := _, pos := _, after := _, guard := _ }) (v := ?_) rfl (by kernel_rfl) (by kernel_rfl) (by kernel_rfl) (fun _ _ _ h => h) (Or.inl (Or.inl ⟨by rfl, ?_⟩)) hS ?_
              rotate_left
              focus ((intro w hSw; (try dsimp only at hSw); have d0 := HD0.out w hSw; have d1 := HD1.out w hSw; have d2 := HD2.out w hSw; go_simp); (try with_reducible rfl))
              intro k9 hk_
              replace hS := hS.trans hk_
              (try simp only [Act.put, List.setIfInBounds_toArray, List.set_cons_zero, List.set_cons_succ])
              clear hk_
              refine wpAnyK_take Later.refl (fun _ _ _ h k => h.trans k) (fun _ _ h k => h.trans k) (i := 10) (oi := { dst := some 131, op := _, type := _, pos := _, after := _, guard := _ }) (v := ?_) rfl (by kernel_rfl) (by kernel_rfl) (by kernel_rfl) (fun _ _ _ h => h) (Or.inl (Or.inl ⟨by rfl, ?_⟩)) hS ?_
              rotate_left
              focus ((intro w hSw; (try dsimp only at hSw); have d0 := HD0.out w hSw; have d1 := HD1.out w hSw; have d2 := HD2.out w hSw; go_simp); (try with_reducible rfl))
              intro k10 hk_
              replace hS := hS.trans hk_
              (try simp only [Act.put, List.setIfInBounds_toArray, List.set_cons_zero, List.set_cons_succ])
              clear hk_
              refine wpAnyK_take Later.refl (fun _ _ _ h k => h.trans k) (fun _ _ h k => h.trans k) (i := 11) (oi := { dst := some 132, op := _, type := _, pos := _, after := _, guard := _ }) (v := ?_) rfl (by kernel_rfl) (by kernel_rfl) (by kernel_rfl) (fun _ _ _ h => h) (Or.inl (Or.inl ⟨by rfl, ?_⟩)) hS ?_
              rotate_left
              focus ((intro w hSw; (try dsimp only at hSw); have d0 := HD0.out w hSw; have d1 := HD1.out w hSw; have d2 := HD2.out w hSw; go_simp); (try with_reducible rfl))
              intro k11 hk_
              replace hS := hS.trans hk_
              (try simp only [Act.put, List.setIfInBounds_toArray, List.set_cons_zero, List.set_cons_succ])
              clear hk_
              refine wpAnyK_take Later.refl (fun _ _ _ h k => h.trans k) (fun _ _ h k => h.trans k) (i := 12) (oi := { dst := some 133, op := _, type := _, pos := _, after := _, guard := _ }) (v := ?_) rfl (by kernel_rfl) (by kernel_rfl) (by kernel_rfl) (fun _ _ _ h => h) (Or.inl (Or.inl ⟨by rfl, ?_⟩)) hS ?_
              rotate_left
              focus ((intro w hSw; (try dsimp only at hSw); have d0 := HD0.out w hSw; have d1 := HD1.out w hSw; have d2 := HD2.out w hSw; go_simp); (try with_reducible rfl))
              intro k12 hk_
              replace hS := hS.trans hk_
              (try simp only [Act.put, List.setIfInBounds_toArray, List.set_cons_zero, List.set_cons_succ])
              clear hk_
              refine wpAnyK_all (rs := [8]) (by kernel_rfl) (by simp) (fun i hi => ?_)
              simp only [List.mem_cons, List.not_mem_nil, or_false] at hi
              subst hi
              refine stepK (o := { dst := some 129, op := _, type := _, pos := _, after := _, guard := _ }) rfl (fun K hK => ?_)
              go_simp
              obtain ⟨lu, hl⟩ : ∃ x, (k12).heap.size = x := ⟨_, rfl⟩
              obtain ⟨y1, hwl⟩ : ∃ x, (k12).alloc (.cells #[.string nm, .int .i64 op, .int .i64 vt, .int .i64 vi, .string vs, .bool false, .bool nt, .string nm, .int .i64 op, .int .i64 vt, .int .i64 vi, .string vs, .bool false, .bool (!nt)] 28) = x := ⟨_, rfl⟩
              have ll : Later k12 y1 := hwl ▸ Later.new _ _
              have HLu := Lib.hid (show Has y1 (some ⟨lu, 0, none⟩) (ft [⟨nm, op, (vt, vi, vs), false, nt⟩, ⟨nm, op, (vt, vi, vs), false, !nt⟩]) from (hwl ▸ Blk.new k12 #[.string nm, .int .i64 op, .int .i64 vt, .int .i64 vi, .string vs, .bool false, .bool nt, .string nm, .int .i64 op, .int .i64 vt, .int .i64 vi, .string vs, .bool false, .bool (!nt)] 28 lu hl.symm : Blk y1 lu #[.string nm, .int .i64 op, .int .i64 vt, .int .i64 vi, .string vs, .bool false, .bool nt, .string nm, .int .i64 op, .int .i64 vt, .int .i64 vi, .string vs, .bool false, .bool (!nt)] 28).has)
              try rw [hl]
              rw [hwl]
              refine hK _ _ (hS.trans ll) (fun y2 h2 => ?_)
              replace hS := (hS.trans ll).trans h2
              have HLu := Lib.hid (HLu.out.later h2)
              clear hK hwl ll hl h2
              (try simp only [Act.put, List.setIfInBounds_toArray, List.set_cons_zero, List.set_cons_succ])
              refine wpAnyK_all (rs := [13]) (by kernel_rfl) (by simp) (fun i hi => ?_)
              simp only [List.mem_cons, List.not_mem_nil, or_false] at hi
              subst hi
              refine stepK (o := { dst := some 134, op := _, type := _, pos := _, after := _, guard := _ }) rfl (fun K hK => ?_)
              go_simp
              refine (HPRW.out [⟨nm, op, (vt, vi, vs), false, nt⟩, ⟨nm, op, (vt, vi, vs), false, !nt⟩] (some ⟨lu, 0, none⟩) 2 2 y2 hS rfl (by omega) HLu.out).mono ?_
              rintro e y3 ⟨rfl, lh⟩
              rw [HVu.out]
              refine hK _ _ (hS.trans lh) (fun y4 h4 => ?_)
              replace hS := (hS.trans lh).trans h4
              clear hK lh h4 HLu
              (try simp only [Act.put, List.setIfInBounds_toArray, List.set_cons_zero, List.set_cons_succ])
              refine wpAnyK_take Later.refl (fun _ _ _ h k => h.trans k) (fun _ _ h k => h.trans k) (i := 14) (oi := { dst := some 135, op := _, type := _, pos := _, after := _, guard := _ }) (v := ?_) rfl (by kernel_rfl) (by kernel_rfl) (by kernel_rfl) (fun _ _ _ h => h) (Or.inl (Or.inl ⟨by rfl, ?_⟩)) hS ?_
              rotate_left
              focus ((intro w hSw; (try dsimp only at hSw); have d0 := HD0.out w hSw; have d1 := HD1.out w hSw; have d2 := HD2.out w hSw; go_simp); (try with_reducible rfl))
              intro k13 hk_
              replace hS := hS.trans hk_
              (try simp only [Act.put, List.setIfInBounds_toArray, List.set_cons_zero, List.set_cons_succ])
              clear hk_
              refine wpAnyK_take Later.refl (fun _ _ _ h k => h.trans k) (fun _ _ h k => h.trans k) (i := 15) (oi := { dst := some 136, op := _, type := _, pos := _, after := _, guard := _ }) (v := ?_) rfl (by kernel_rfl) (by kernel_rfl) (by kernel_rfl) (fun _ _ _ h => h) (Or.inl (Or.inl ⟨by rfl, ?_⟩)) hS ?_
              rotate_left
              focus ((intro w hSw; (try dsimp only at hSw); have d0 := HD0.out w hSw; have d1 := HD1.out w hSw; have d2 := HD2.out w hSw; go_simp); (try with_reducible rfl))
              intro k14 hk_
              replace hS := hS.trans hk_
              (try simp only [Act.put, List.setIfInBounds_toArray, List.set_cons_zero, List.set_cons_succ])
              clear hk_
              refine wpAnyK_take Later.refl (fun _ _ _ h k => h.trans k) (fun _ _ h k => h.trans k) (i := 16) (oi := { dst := some 137, op := _, type := _, pos := _, after := _, guard := _ }) (v := ?_) rfl (by kernel_rfl) (by kernel_rfl) (by kernel_rfl) (fun _ _ _ h => h) (Or.inl (Or.inl ⟨by rfl, ?_⟩)) hS ?_
              rotate_left
              focus ((intro w hSw; (try dsimp only at hSw); have d0 := HD0.out w hSw; have d1 := HD1.out w hSw; have d2 := HD2.out w hSw; go_simp); (try with_reducible rfl))
              intro k15 hk_
              replace hS := hS.trans hk_
              (try simp only [Act.put, List.setIfInBounds_toArray, List.set_cons_zero, List.set_cons_succ])
              clear hk_
              refine wpAnyK_take Later.refl (fun _ _ _ h k => h.trans k) (fun _ _ h k => h.trans k) (i := 17) (oi := { dst := some 138, op := _, type := _, pos := _, after := _, guard := _ }) (v := ?_) rfl (by kernel_rfl) (by kernel_rfl) (by kernel_rfl) (fun _ _ _ h => h) (Or.inl (Or.inl ⟨by rfl, ?_⟩)) hS ?_
              rotate_left
              focus ((intro w hSw; (try dsimp only at hSw); have d0 := HD0.out w hSw; have d1 := HD1.out w hSw; have d2 := HD2.out w hSw; go_simp); (try with_reducible rfl))
              intro k16 hk_
              replace hS := hS.trans hk_
              (try simp only [Act.put, List.setIfInBounds_toArray, List.set_cons_zero, List.set_cons_succ])
              clear hk_
              refine wpAnyK_take Later.refl (fun _ _ _ h k => h.trans k) (fun _ _ h k => h.trans k) (i := 18) (oi := { dst := some 139, op := _, type := _, pos := _, after := _, guard := _ }) (v := ?_) rfl (by kernel_rfl) (by kernel_rfl) (by kernel_rfl) (fun _ _ _ h => h) (Or.inl (Or.inl ⟨by rfl, ?_⟩)) hS ?_
              rotate_left
              focus ((intro w hSw; (try dsimp only at hSw); have d0 := HD0.out w hSw; have d1 := HD1.out w hSw; have d2 := HD2.out w hSw; go_simp); (try with_reducible rfl))
              intro k17 hk_
              replace hS := hS.trans hk_
              (try simp only [Act.put, List.setIfInBounds_toArray, List.set_cons_zero, List.set_cons_succ])
              clear hk_
              refine wpAnyK_take Later.refl (fun _ _ _ h k => h.trans k) (fun _ _ h k => h.trans k) (i := 19) (oi := { dst := some 140, op := _, type := _, pos := _, after := _, guard := _ }) (v := ?_) rfl (by kernel_rfl) (by kernel_rfl) (by kernel_rfl) (fun _ _ _ h => h) (Or.inl (Or.inl ⟨by rfl, ?_⟩)) hS ?_
              rotate_left
              focus ((intro w hSw; (try dsimp only at hSw); have d0 := HD0.out w hSw; have d1 := HD1.out w hSw; have d2 := HD2.out w hSw; go_simp); (try with_reducible rfl))
              intro k18 hk_
              replace hS := hS.trans hk_
              (try simp only [Act.put, List.setIfInBounds_toArray, List.set_cons_zero, List.set_cons_succ])
              clear hk_
              refine wpAnyK_take Later.refl (fun _ _ _ h k => h.trans k) (fun _ _ h k => h.trans k) (i := 20) (oi := { dst := some 141, op := _, type := _, pos := _, after := _, guard := _ }) (v := ?_) rfl (by kernel_rfl) (by kernel_rfl) (by kernel_rfl) (fun _ _ _ h => h) (Or.inl (Or.inl ⟨by rfl, ?_⟩)) hS ?_
              rotate_left
              focus ((intro w hSw; (try dsimp only at hSw); have d0 := HD0.out w hSw; have d1 := HD1.out w hSw; have d2 := HD2.out w hSw; go_simp); (try with_reducible rfl))
              intro k19 hk_
              replace hS := hS.trans hk_
              (try simp only [Act.put, List.setIfInBounds_toArray, List.set_cons_zero, List.set_cons_succ])
              clear hk_
              refine wpAnyK_take Later.refl (fun _ _ _ h k => h.trans k) (fun _ _ h k => h.trans k) (i := 21) (oi := { dst := some 142, op := _, type := _, pos := _, after := _, guard := _ }) (v := ?_) rfl (by kernel_rfl) (by kernel_rfl) (by kernel_rfl) (fun _ _ _ h => h) (Or.inl (Or.inl ⟨by rfl, ?_⟩)) hS ?_
              rotate_left
              focus ((intro w hSw; (try dsimp only at hSw); have d0 := HD0.out w hSw; have d1 := HD1.out w hSw; have d2 := HD2.out w hSw; go_simp); (try with_reducible rfl))
              intro k20 hk_
              replace hS := hS.trans hk_
              (try simp only [Act.put, List.setIfInBounds_toArray, List.set_cons_zero, List.set_cons_succ])
              clear hk_
              refine wpAnyK_take Later.refl (fun _ _ _ h k => h.trans k) (fun _ _ h k => h.trans k) (i := 22) (oi := { dst := some 143, op := _, type := _, pos := _, after := _, guard := _ }) (v := ?_) rfl (by kernel_rfl) (by kernel_rfl) (by kernel_rfl) (fun _ _ _ h => h) (Or.inl (Or.inl ⟨by rfl, ?_⟩)) hS ?_
              rotate_left
              focus ((intro w hSw; (try dsimp only at hSw); have d0 := HD0.out w hSw; have d1 := HD1.out w hSw; have d2 := HD2.out w hSw; go_simp); (try with_reducible rfl))
              intro k21 hk_
              replace hS := hS.trans hk_
              (try simp only [Act.put, List.setIfInBounds_toArray, List.set_cons_zero, List.set_cons_succ])
              clear hk_
              refine wpAnyK_take Later.refl (fun _ _ _ h k => h.trans k) (fun _ _ h k => h.trans k) (i := 23) (oi := { dst := some 144, op := _, type := _, pos := _, after := _, guard := _ }) (v := ?_) rfl (by kernel_rfl) (by kernel_rfl) (by kernel_rfl) (fun _ _ _ h => h) (Or.inl (Or.inl ⟨by rfl, ?_⟩)) hS ?_
              rotate_left
              focus ((intro w hSw; (try dsimp only at hSw); have d0 := HD0.out w hSw; have d1 := HD1.out w hSw; have d2 := HD2.out w hSw; go_simp); (try with_reducible rfl))
              intro k22 hk_
              replace hS := hS.trans hk_
              (try simp only [Act.put, List.setIfInBounds_toArray, List.set_cons_zero, List.set_cons_succ])
              clear hk_
              refine wpAnyK_take Later.refl (fun _ _ _ h k => h.trans k) (fun _ _ h k => h.trans k) (i := 24) (oi := { dst := some 145, op := _, type := _, pos := _, after := _, guard := _ }) (v := ?_) rfl (by kernel_rfl) (by kernel_rfl) (by kernel_rfl) (fun _ _ _ h => h) (Or.inl (Or.inl ⟨by rfl, ?_⟩)) hS ?_
              rotate_left
              focus ((intro w hSw; (try dsimp only at hSw); have d0 := HD0.out w hSw; have d1 := HD1.out w hSw; have d2 := HD2.out w hSw; go_simp); (try with_reducible rfl))
              intro k23 hk_
              replace hS := hS.trans hk_
              (try simp only [Act.put, List.setIfInBounds_toArray, List.set_cons_zero, List.set_cons_succ])
              clear hk_
              refine wpAnyK_take Later.refl (fun _ _ _ h k => h.trans k) (fun _ _ h k => h.trans k) (i := 25) (oi := { dst := some 146, op := _, type := _, pos := _, after := _, guard := _ }) (v := ?_) rfl (by kernel_rfl) (by kernel_rfl) (by kernel_rfl) (fun _ _ _ h => h) (Or.inl (Or.inl ⟨by rfl, ?_⟩)) hS ?_
              rotate_left
              focus ((intro w hSw; (try dsimp only at hSw); have d0 := HD0.out w hSw; have d1 := HD1.out w hSw; have d2 := HD2.out w hSw; go_simp); (try with_reducible rfl))
              intro k24 hk_
              replace hS := hS.trans hk_
              (try simp only [Act.put, List.setIfInBounds_toArray, List.set_cons_zero, List.set_cons_succ])
              clear hk_
              refine wpAnyK_take Later.refl (fun _ _ _ h k => h.trans k) (fun _ _ h k => h.trans k) (i := 26) (oi := { dst := some 147, op := _, type := _, pos := _, after := _, guard := _ }) (v := ?_) rfl (by kernel_rfl) (by kernel_rfl) (by kernel_rfl) (fun _ _ _ h => h) (Or.inl (Or.inl ⟨by rfl, ?_⟩)) hS ?_
              rotate_left
              focus ((intro w hSw; (try dsimp only at hSw); have d0 := HD0.out w hSw; have d1 := HD1.out w hSw; have d2 := HD2.out w hSw; go_simp); (try with_reducible rfl))
              intro k25 hk_
              replace hS := hS.trans hk_
              (try simp only [Act.put, List.setIfInBounds_toArray, List.set_cons_zero, List.set_cons_succ])
              clear hk_
              refine wpAnyK_take Later.refl (fun _ _ _ h k => h.trans k) (fun _ _ h k => h.trans k) (i := 27) (oi := { dst := some 148, op := _, type := _, pos := _, after := _, guard := _ }) (v := ?_) rfl (by kernel_rfl) (by kernel_rfl) (by kernel_rfl) (fun _ _ _ h => h) (Or.inl (Or.inl ⟨by rfl, ?_⟩)) hS ?_
              rotate_left
              focus ((intro w hSw; (try dsimp only at hSw); have d0 := HD0.out w hSw; have d1 := HD1.out w hSw; have d2 := HD2.out w hSw; go_simp); (try with_reducible rfl))
              intro k26 hk_
              replace hS := hS.trans hk_
              (try simp only [Act.put, List.setIfInBounds_toArray, List.set_cons_zero, List.set_cons_succ])
              clear hk_
              refine wpAnyK_take Later.refl (fun _ _ _ h k => h.trans k) (fun _ _ h k => h.trans k) (i := 28) (oi := { dst := some 149, op := _, type := _, pos := _, after := _, guard := _ }) (v := ?_) rfl (by kernel_rfl) (by kernel_rfl) (by kernel_rfl) (fun _ _ _ h => h) (Or.inl (Or.inl ⟨by rfl, ?_⟩)) hS ?_
              rotate_left
              focus ((intro w hSw; (try dsimp only at hSw); have d0 := HD0.out w hSw; have d1 := HD1.out w hSw; have d2 := HD2.out w hSw; go_simp); (try with_reducible rfl))
              intro k27 hk_
              replace hS := hS.trans hk_
              (try simp only [Act.put, List.setIfInBounds_toArray, List.set_cons_zero, List.set_cons_succ])
              clear hk_
              refine wpAnyK_take Later.refl (fun _ _ _ h k => h.trans k) (fun _ _ h k => h.trans k) (i := 29) (oi := { dst := some 150, op := _, type := _, pos := _, after := _, guard := _ }) (v := ?_) rfl (by kernel_rfl) (by kernel_rfl) (by kernel_rfl) (fun _ _ _ h => h) (Or.inl (Or.inl ⟨by rfl, ?_⟩)) hS ?_
              rotate_left
              focus ((intro w hSw; (try dsimp only at hSw); have d0 := HD0.out w hSw; have d1 := HD1.out w hSw; have d2 := HD2.out w hSw; go_simp); (try with_reducible rfl))
              intro k28 hk_
              replace hS := hS.trans hk_
              (try simp only [Act.put, List.setIfInBounds_toArray, List.set_cons_zero, List.set_cons_succ])
              clear hk_
              refine wpAnyK_take Later.refl (fun _ _ _ h k => h.trans k) (fun _ _ h k => h.trans k) (i := 30) (oi := { dst := some 151, op := _, type := _, pos := _, after := _, guard := _ }) (v := ?_) rfl (by kernel_rfl) (by kernel_rfl) (by kernel_rfl) (fun _ _ _ h => h) (Or.inl (Or.inl ⟨by rfl, ?_⟩)) hS ?_
              rotate_left
              focus ((intro w hSw; (try dsimp only at hSw); have d0 := HD0.out w hSw; have d1 := HD1.out w hSw; have d2 := HD2.out w hSw; go_simp); (try with_reducible rfl))
              intro k29 hk_
              replace hS := hS.trans hk_
              (try simp only [Act.put, List.setIfInBounds_toArray, List.set_cons_zero, List.set_cons_succ])
              clear hk_
              refine wpAnyK_done (by kernel_rfl) ?_ _
              go_wp2_with fail
              go_roundw
              all_goals first
                | exact ⟨i + 1, by omega, by go_num, HLA.out.trans hS⟩
                | (simp [intOf]; omega)
      · have hi15 : i = 15 := by omega
        subst hi15
        have e15 : ((15 : Nat) : Int) = 15 := rfl
        rw [e15]
        go_wp2_with fail
        go_ret
        exact ⟨rfl, HL5.out.trans HLW.out⟩
end Go.Proofs.YteiabachilpciaaDoor
