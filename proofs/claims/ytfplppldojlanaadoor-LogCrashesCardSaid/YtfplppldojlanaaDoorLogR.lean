/- rabbetlaw21.begun. -/
import Derived.Test.YtfplppldojlanaaDoorLogQ
import Derived.Lib.SlBytesConst
namespace Go.Proofs.YtfplppldojlanaaDoor
open Go.RowKit
set_option linter.unusedVariables false

theorem LayP.here {base p gs gn B q area gen used f wn : Nat} {now : List (List Nat)} {w wr : World} (h : LayP base p gs gn B q area gen used f wn now w wr) : LayP base p gs gn B q area gen used f wn now wr wr := by
  obtain ⟨d, cs, cn, A, cf, h1, h2, h3, h4, h5, h6⟩ := h
  exact ⟨d, cs, cn, A, cf, h1, h2, h3, h4, KL.refl _, Below.refl _ _⟩
theorem LayP.below {base p gs gn B q area gen used f wn : Nat} {now : List (List Nat)} {w wr : World} (h : LayP base p gs gn B q area gen used f wn now w wr) : Below base w wr := by
  obtain ⟨d, cs, cn, A, cf, h1, h2, h3, h4, h5, h6⟩ := h
  exact h6
theorem LayP.kl {base p gs gn B q area gen used f wn : Nat} {now : List (List Nat)} {w wr : World} (h : LayP base p gs gn B q area gen used f wn now w wr) : KL gs gn q w wr := by
  obtain ⟨d, cs, cn, A, cf, h1, h2, h3, h4, h5, h6⟩ := h
  exact h5
theorem LayP.blk {base p gs gn B q area gen used f wn : Nat} {now : List (List Nat)} {w wr : World} (h : LayP base p gs gn B q area gen used f wn now w wr) : LogBk wr q p area gen used := by
  obtain ⟨d, cs, cn, A, cf, h1, h2, h3, h4, h5, h6⟩ := h
  exact h2
theorem LayP.rows {base p gs gn B q area gen used f wn : Nat} {now : List (List Nat)} {w wr : World} (h : LayP base p gs gn B q area gen used f wn now w wr) : gs < wr.heap.size ∧ gn < wr.heap.size ∧ now.length = B := by
  obtain ⟨d, cs, cn, A, cf, h1, h2, h3, h4, h5, h6⟩ := h
  obtain ⟨_, ⟨_, vs, s2, _⟩, ⟨n1, ns, n2, _⟩, _⟩ := h1
  exact ⟨(s2.lt gs rfl).2, (n2.lt gn rfl).2, by rw [← h4]; exact n1⟩
theorem S21B.of {w : World} {a : Addr} (h : S21 w a) : S21B w.heap.size w a := by
  obtain ⟨x, hx⟩ := h.torn
  exact ⟨h, block_lt_of_cell h.err, block_lt_of_cell h.whole, block_lt_of_cell hx⟩
theorem one_map {ss : List SlB} {r : List Nat} (h : ss.map (·.l) = [r]) : ∃ s, ss = [s] ∧ s.l = r := by
  rcases ss with _ | ⟨s, _ | ⟨t, ts⟩⟩
  · cases h
  · exact ⟨s, rfl, by simpa using h⟩
  · simp at h
theorem two_map {ss : List SlB} {r t : List Nat} (h : ss.map (·.l) = [r, t]) : ∃ s s2, ss = [s, s2] ∧ s.l = r ∧ s2.l = t := by
  rcases ss with _ | ⟨s, _ | ⟨s2, _ | ⟨s3, ts⟩⟩⟩
  · cases h
  · simp at h
  · exact ⟨s, s2, rfl, by simpa using h⟩
  · simp at h
theorem RB.kln {w w' : World} {base gs gn q : Nat} {A : Option Addr} {l : List Nat} (h : RB w base A l) (k : KL gs gn q w w') (hq : w.heap.size ≤ q) : RB w' base A l := by
  obtain ⟨b, o, cs, h1, h2, h3, h4⟩ := h
  have := (Array.getElem?_eq_some_iff.1 h3).1
  exact ⟨b, o, cs, h1, h2, (k.2.2.2.2.1 b cs _ (by omega) (by decide) (by decide) (by decide) h3).trans h3, h4⟩
theorem TB.kln {w w' : World} {base gs gn q : Nat} {A : Option Addr} {n c : Nat} {ss : List SlB} (h : TB w base A n c ss) (k : KL gs gn q w w') (hq : w.heap.size ≤ q) (h1 : gs < base) (h2 : gn < base) : TB w' base A n c ss := by
  refine ⟨?_, fun s hs => (h.2.1 s hs).kln k hq, h.2.2⟩
  obtain ⟨a1, a2⟩ := h.1
  refine ⟨a1, ?_⟩
  rcases a2 with a2 | ⟨g, cap, cur, ha, hb, hg, hrest⟩
  · exact .inl a2
  · have := (Array.getElem?_eq_some_iff.1 hg).1
    exact .inr ⟨g, cap, cur, ha, hb, (k.2.2.2.2.2 g cur (by omega) (by omega) (by omega) hg).trans hg, hrest⟩
/-- Open of a log that LayP tells of. -/
theorem logOpen_lay (base p gs gn B q0 area gen used : Nat) (recs now : List (List Nat)) (a : Addr) (w0 w : World) (f wn : Nat) (h : LayP base p gs gn B q0 area gen used f wn now w0 w) (hB : B ≤ 4000) (hf : FitsD B area) (hS : LgS area gen recs now) (hg1 : 1 ≤ gen) (hg : gen + 1 ≤ 4294967294) (hfl : f ≤ 20000) (hwn : wn ≤ 20000) (hbw : base ≤ w.heap.size)
    (hs : ∀ r ∈ recs, r.length ≤ 990 ∧ ∀ x ∈ r, x < 256) (hse : S21B base w0 a) :
    Calls Tryd.prog 12 #[dptr p, .int .i64 area] w (OpenP base p gs gn B area gen wn recs w) := by
  obtain ⟨d, cs, cn, A, cf, h1, h2, h3, h4, h5, h6⟩ := h
  exact logOpen_any base p gs gn B cs cn A cf d area gen recs a w f wn h1 hB hf (h4 ▸ hS) hg1 hg h3 hfl hwn hbw hs (hse.below h6)
theorem fits20 : FitsD 20 ((9 : Nat) : Int) := ⟨by decide, by decide, by decide⟩
theorem new_ho (B : Nat) (hB : 1 ≤ B) : ∃ b, (newD B).now[0]? = some b ∧ slotG 0 b < 1 := by
  refine ⟨z128, ?_, ?_⟩
  · show (List.replicate B z128)[0]? = _
    rw [List.getElem?_replicate, if_pos (by omega)]
  · rw [slotG_zero 0 z128 rfl]; decide
theorem Has.litAt {w w' : World} {g : Nat} {t : TypeId} {k : IntKind} {l : List Nat} {z : Nat × Nat} (h : w.heap[g]? = some (Obj.cells (ints k l).toArray t z)) : Has w (some ⟨g, 0, none⟩) (ints k l) :=
  .inr ⟨g, 0, rfl, (Array.getElem?_eq_some_iff.1 h).1, fun i v hv => by rw [Nat.zero_add, cell_of_row _ g i (ints k l).toArray t z h]; simpa using hv⟩

set_option maxRecDepth 100000 in
set_option maxHeartbeats 2000000 in
theorem begun21_any (a : Addr) (w : World) (hs : S21 w a) : Calls Tryd.prog 7 #[] w fun e w' => e = .returned (.bool true) ∧ Later w w' := by
  have HS := Lib.hid (S21B.of hs)
  have HN := Lib.hid (devNew_any 20 w (by decide))
  have kc := fun (w : World) (C : Array Value) (n c : Nat) => Lib.run_convert_bytes_const (P := Tryd.prog) w 24 5 C n c Tryd.underlying24 Tryd.underlying5
  clear hs
  go_enter Tryd.func7, Tryd.ntmps7
  go_wp2_with fail
  refine HN.out.mono ?_
  rintro e w1 ⟨p, gs, gn, cs, cn, rfl, hda, hl1⟩
  obtain ⟨ga, hga⟩ : ∃ x, w1.heap.size = x := ⟨_, rfl⟩
  obtain ⟨w2, hw2⟩ : ∃ x, w1.alloc (.cells #[.int .u8 97] 5 (1, 2)) = x := ⟨_, rfl⟩
  obtain ⟨w3, hw3⟩ : ∃ x, w2.alloc (.cells #[.slice (some ⟨ga, 0, none⟩) 1 1] 24) = x := ⟨_, rfl⟩
  have l2 : Later w1 w2 := hw2 ▸ Later.new _ _
  have l3 : Later w2 w3 := hw3 ▸ Later.new _ _
  have hz2 : w2.heap.size = ga + 1 := by rw [← hw2, ← hga]; simp
  have hb2 : w2.heap[ga]? = some (Obj.cells (ints .u8 [97]).toArray 5 (1, 2)) := by rw [← hw2, ← hga]; exact heap_alloc_new w1 _
  have hb3 : w3.heap[ga]? = some (Obj.cells (ints .u8 [97]).toArray 5 (1, 2)) := (Below.block l3 ga (Array.getElem?_eq_some_iff.1 hb2).1).trans hb2
  have hr3 : Blk w3 (ga + 1) [Value.slice (some ⟨ga, 0, none⟩) 1 1].toArray 24 := hw3 ▸ Blk.new w2 _ _ (ga + 1) hz2.symm
  have l13 : Later w1 w3 := l2.trans l3
  have hgl : gs < ga ∧ gn < ga := by
    obtain ⟨_, ⟨_, vs, s2, _⟩, ⟨_, ns, n2, _⟩, _⟩ := hda
    rw [← hga]
    exact ⟨(s2.lt gs rfl).2, (n2.lt gn rfl).2⟩
  have HM := Lib.hid (logMake_any w.heap.size p gs gn 20 cs cn none 0 (newD 20) 9 (some ⟨ga + 1, 0, none⟩) 1 [⟨some ⟨ga, 0, none⟩, 1, [97]⟩] a w3 0 0 (hda.later l13) (by decide) fits20 (DOk.new 20) (by decide) (by decide) (hl1.trans l13).size (by simp)
    (fun q W hq hk hb => ⟨blk_hasL (t := 24) (show W.heap[ga + 1]? = _ from (hk.2.2.2.2.2 (ga + 1) _ (by have := hr3.lt; omega) (by omega) (by omega) hr3).trans hr3), fun s hs => by
      rw [List.mem_singleton] at hs
      subst hs
      exact Has.litAt (w' := W) (t := 5) (z := (1, 2)) ((hk.2.2.2.2.1 ga _ _ (by have := hr3.lt; omega) (by decide) (by decide) (by decide) hb3).trans hb3)⟩)
    (fun s hs => by rw [List.mem_singleton] at hs; subst hs; exact ⟨by simp, by simp, fun h => by cases h⟩) (new_ho 20 (by decide)) ((HS.out.later hl1).later l13))
  have HL3 := Lib.hid (hl1.trans l13)
  have HGA := Lib.hid hga
  have HW2 := Lib.hid hw2
  have HW3 := Lib.hid hw3
  clear hda hl1 hw2 hw3 hz2 hb2 hb3 hr3 l13 hgl l2 l3 hga HN
  go_wp2_with fail
  rw [HGA.out, HW2.out, HW3.out]
  refine HM.out.mono ?_
  rintro e w4 ⟨rfl, hr⟩
  have hfe : fitsE ((9 : Nat) : Int) [[97]] = 0 := by decide +kernel
  rcases hr with ⟨h1, _⟩ | ⟨_, q, now, hq, hlg, hlay⟩
  · exact absurd hfe h1
  have es1 : sumN [[97]] = 1 := by decide
  have hlay : LayP w.heap.size p gs gn 20 q 9 1 (sumN [[97]]) 0 (0 + 9 + sumN [[97]] + 1) now w3 w4 := hlay
  rw [es1] at hlay
  have hfe2 : fitsE ((9 : Nat) : Int) (List.map (·.l) [(⟨some ⟨ga, 0, none⟩, 1, [97]⟩ : SlB)]) = 0 := hfe
  rw [hfe2]
  have HLG := Lib.hid (show LgS 9 1 [[97]] now from hlg)
  have HL4 := Lib.hid (show LayP w.heap.size p gs gn 20 q 9 1 1 0 11 now w3 w4 from hlay)
  have HO := Lib.hid (logOpen_lay w.heap.size p gs gn 20 q 9 1 1 [[97]] now a w3 w4 0 11 hlay (by decide) fits20 hlg (by decide) (by decide) (by decide) (by decide) (Nat.le_trans HL3.out.size hlay.kl.2.2.2.1) (by decide) (HS.out.later HL3.out))
  clear hlg hlay hfe hfe2 HM HW2 HW3 HGA hq
  go_wp2_with fail
  refine HO.out.mono ?_
  rintro e w5 ⟨q1, T, c, ss, now1, rfl, hm, htb, hq1, hlg1, hlay1⟩
  obtain ⟨s0, rfl, hs0⟩ := one_map hm
  have HT := Lib.hid htb
  have HS0 := Lib.hid hs0
  have HLG1 := Lib.hid (show LgS 9 2 [[97]] now1 from hlg1)
  rw [es1] at hlay1
  have HL5 := Lib.hid (show LayP w.heap.size p gs gn 20 q1 9 2 1 0 22 now1 w4 w5 from hlay1)
  have HB5 := Lib.hid ((Below.mono HL3.out.below (Nat.le_refl _)).trans (HL4.out.below.trans HL5.out.below))
  have HB0 : w.heap.size ≤ q1 := Nat.le_trans (Nat.le_trans HL3.out.size HL4.out.kl.2.2.2.1) hq1
  have HZ5 := Lib.hid (Nat.le_trans (Nat.le_trans HL3.out.size HL4.out.kl.2.2.2.1) HL5.out.kl.2.2.2.1)
  have hnn : ([s0] : List SlB).length = 1 := rfl
  rw [hnn]
  obtain ⟨gc, hgc⟩ : ∃ x, w5.heap.size = x := ⟨_, rfl⟩
  obtain ⟨w6, hw6⟩ : ∃ x, w5.alloc (.cells #[.int .u8 98] 5 (1, 2)) = x := ⟨_, rfl⟩
  have l6 : Later w5 w6 := hw6 ▸ Later.new _ _
  have hb6 : w6.heap[gc]? = some (Obj.cells (ints .u8 [98]).toArray 5 (1, 2)) := by rw [← hw6, ← hgc]; exact heap_alloc_new w5 _
  have HL6 := Lib.hid (HL5.out.later l6 HB0).here
  have HB6 := Lib.hid (HB5.out.trans (Below.mono l6.below HZ5.out))
  have HA := Lib.hid (logAppend_any w.heap.size p gs gn 20 q1 9 2 1 0 22 now1 [[97]] (some ⟨gc, 0, none⟩) 1 [98] a w6 w6 HL6.out (by decide) fits20 (by decide) (by decide) (by decide) HB0 hlg1 rfl (Has.litAt (w' := w6) hb6) (fun h => by cases h) (by decide) (by decide) (HS.out.below HB6.out))
  have HGC := Lib.hid hgc
  have HW6 := Lib.hid hw6
  have HT6 := Lib.hid (htb.later l6)
  have HZ6 := Lib.hid (Nat.le_trans HZ5.out l6.size)
  have HH5 := Lib.hid (show gs < w4.heap.size ∧ gn < w4.heap.size from ⟨HL4.out.rows.1, HL4.out.rows.2.1⟩)
  clear hm htb hq1 hlg1 hlay1 hs0 HO hnn hgc hw6 hb6 HT
  go_wp2_with fail
  rw [HGC.out, HW6.out]
  refine HA.out.mono ?_
  rintro e w7 ⟨rfl, hr⟩
  have hfe : fitsE (((9 : Nat) : Int) - ((1 : Nat) : Int)) [[98]] = 0 := by decide +kernel
  rcases hr with ⟨h1, _⟩ | ⟨_, now2, hlg2, hlay2⟩
  · exact absurd hfe h1
  rw [hfe]
  have eb : blkN ([98] : List Nat).length = 1 := by decide
  rw [eb] at hlay2
  have HLG2 := Lib.hid (show LgS 9 2 [[97], [98]] now2 from hlg2)
  have HL7 := Lib.hid (show LayP w.heap.size p gs gn 20 q1 9 2 2 0 23 now2 w6 w7 from hlay2)
  clear hlg2 hlay2 hfe eb HA HW6 HGC l6
  have HR := Lib.hid (logRoom_any q1 p 9 2 2 w7 HL7.out.blk (by decide) (by decide))
  have HT7 := Lib.hid (HT6.out.kl HL7.out.kl HL6.out.blk HH5.out.1 HH5.out.2)
  have HB7 := Lib.hid (HB6.out.trans HL7.out.below)
  have HZ7 := Lib.hid (Nat.le_trans HZ6.out HL7.out.kl.2.2.2.1)
  clear HT6 HL6 HB6 HZ6
  go_wp2_with fail
  refine HR.out.mono ?_
  rintro e w8 ⟨rfl, l8⟩
  have hw : ((9 : Nat) : Int) - ((2 : Nat) : Int) = 7 := rfl
  rw [hw]
  have HL8 := Lib.hid (HL7.out.later l8 HB0).here
  have HT8 := Lib.hid (HT7.out.later l8)
  have HB8 := Lib.hid (HB7.out.trans (Below.mono l8.below HZ7.out))
  have HZ8 := Lib.hid (Nat.le_trans HZ7.out l8.size)
  have HO := Lib.hid (logOpen_lay w.heap.size p gs gn 20 q1 9 2 2 [[97], [98]] now2 a w8 w8 0 23 HL8.out (by decide) fits20 HLG2.out (by decide) (by decide) (by decide) (by decide) HZ8.out (by decide) (HS.out.below HB8.out))
  clear hw HR HT7 HB7 HZ7 HL7 l8
  go_wp2_with fail
  refine HO.out.mono ?_
  rintro e w9 ⟨q2, T2, c2, ss2, now3, rfl, hm2, htb2, hq2, hlg3, hlay3⟩
  obtain ⟨s1, s2, rfl, hs1, hs2⟩ := two_map hm2
  have HT9 := Lib.hid (HT8.out.kln hlay3.kl hq2 HH5.out.1 HH5.out.2)
  have hnn : ([s1, s2] : List SlB).length = 2 := rfl
  rw [hnn]
  obtain ⟨b1, o1, hA, _, hc1⟩ := HT9.out.has.1.at_ (k := 0) (by simp)
  obtain ⟨b2, o2, hA2, _, hc2⟩ := htb2.has.1.at_ (k := 1) (by simp)
  have hx1 := HT9.out.has.2 s0 (by simp)
  have hx2 := htb2.has.2 s2 (by simp)
  rw [HS0.out] at hx1
  rw [hs2] at hx2
  have hc1' : w9.cell? ⟨b1, o1, none⟩ = some (.slice s0.a 1 s0.c) := by
    have h : w9.cell? ⟨b1, o1 + 0, none⟩ = some (.slice s0.a s0.l.length s0.c) := hc1
    rw [HS0.out] at h; exact h
  have hc2' : w9.cell? ⟨b2, o2 + 1, none⟩ = some (.slice s2.a 1 s2.c) := by
    have h : w9.cell? ⟨b2, o2 + 1, none⟩ = some (.slice s2.a s2.l.length s2.c) := hc2
    rw [hs2] at h; exact h
  have cv1 := conv_str s0.a 1 s0.c [97] rfl w9 _ hx1
  have cv2 := conv_str s2.a 1 s2.c [98] rfl w9 _ hx2
  have e97 : bstr [97] = ⟨#[97]⟩ := rfl
  have e98 : bstr [98] = ⟨#[98]⟩ := rfl
  rw [e97] at cv1
  rw [e98] at cv2
  subst hA hA2
  have HGN := Lib.hid (logGen_any q2 p 9 3 2 w9 hlay3.blk)
  have HSZ := Lib.hid (logSize_any 9 w9 (by decide))
  have HEND := Lib.hid (show Later w w9 from HB8.out.trans hlay3.below)
  clear hc1 hc2 hx1 hx2 hm2 htb2 hq2 hlg3 hlay3 HT9 HT8 HL8 HB8 HZ8 HO hnn hs1 hs2 e97 e98
  go_wp2_with fail
  refine HGN.out.mono ?_
  rintro e w10 ⟨rfl, rfl⟩
  go_wp2_with fail
  refine HSZ.out.mono ?_
  rintro e w11 ⟨rfl, rfl⟩
  go_wp2_with fail
  go_ret
  exact ⟨rfl, HEND.out⟩
end Go.Proofs.YtfplppldojlanaaDoor
