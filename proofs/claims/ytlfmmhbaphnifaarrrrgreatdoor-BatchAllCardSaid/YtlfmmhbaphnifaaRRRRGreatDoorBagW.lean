/- Bag again: rows of any length that fits. (tools/gen_wide.py) -/
import Derived.Test.YtlfmmhbaphnifaaRRRRGreatDoorBag
import Derived.Test.YtlfmmhbaphnifaaRRRRGreatDoorSameW
namespace Go.Proofs.YtlfmmhbaphnifaaRRRRGreatDoor
open Go.RowKit
set_option linter.unusedVariables false

set_option maxRecDepth 100000 in
set_option maxHeartbeats 2000000 in
theorem compareRows_anyW (A B : Option Addr) (n m ca cb : Nat) (x y : List Val3) (w : World) (hn : n = x.length) (hm : m = y.length) (hl : n ≤ 9223372036854775807) (hl2 : m ≤ 9223372036854775807) (ha : Has w A (fl x)) (hb : Has w B (fl y)) :
    Calls Tryz.prog 54 #[.slice A n ca, .slice B m cb, .func (.func 55) #[] #[]] w (GrowsInt (exR x y) w) := by
  have eg : ∀ args w, (callFunc 55 args).run Tryz.prog w = .ok (.enter 55 args) w := enters_of Tryz.func55 (by kernel_rfl) rfl
  have HN := Lib.hid hn
  have HM := Lib.hid hm
  have HA := Lib.hid ha
  have HB := Lib.hid hb
  have HI0 := Lib.hid (CfI.mk (x := x) (y := y) (w := w) (wr := w) 0 0 rfl (Nat.zero_le _) (Nat.zero_le _) rfl (Grows.refl w))
  obtain ⟨v, hv⟩ : ∃ v, exR x y = v := ⟨_, rfl⟩
  have HV := Lib.hid hv
  rw [hv]
  clear hn hm ha hb hv
  go_enter Tryz.func54, Tryz.ntmps54
  go_wp2_with fail
  go_loopw [13] (fun iv wr => CfI x y w iv wr) (fun i _ => n - (intOf i).toNat)
  case atStart => exact HI0.out
  case round =>
    obtain ⟨j, rfl, hj1, hj2, hex, gr⟩ := hrel
    have HEX := Lib.hid (HV.out.symm.trans hex)
    have HEX2 := Lib.hid hex
    have HGR := Lib.hid gr
    clear HI0 hex
    by_cases hlt : j < n
    · have h1 : j < x.length := by have := HN.out; omega
      obtain ⟨b1, o1, hA1, c0, c1, c2⟩ := (HA.out.later gr.later).val3 j h1
      subst hA1
      by_cases hge : m ≤ j
      · have hgi : (m : Int) ≤ (j : Int) := by omega
        have HE := Lib.hid (show v = 1 from HEX.out.trans (exR_short h1 (by have := HM.out; omega)))
        generalize x[j].1 = t at c0
        generalize x[j].2.1 = i at c1
        generalize x[j].2.2 = s at c2
        clear gr
        go_wp2_with fail
        go_ret
        rw [HE.out]
        exact ⟨rfl, HGR.out.alloc _⟩
      · have hgi : (j : Int) < (m : Int) := by omega
        have h2 : j < y.length := by have := HM.out; omega
        obtain ⟨b2, o2, hB1, d0, d1, d2⟩ := (HB.out.later gr.later).val3 j h2
        subst hB1
        have HST := Lib.hid (HEX.out.trans (exR_drop h1 h2))
        have HST2 := Lib.hid (fun h => HEX2.out.trans ((exR_drop h1 h2).trans (if_neg (fun k => k h))))
        obtain ⟨g1, hg1⟩ : ∃ z, wr.heap.size = z := ⟨_, rfl⟩
        obtain ⟨g2, hg2⟩ : ∃ z, wr.heap.size + 1 = z := ⟨_, rfl⟩
        obtain ⟨r, hr⟩ : ∃ r, exV x[j] y[j] = r := ⟨_, rfl⟩
        have HXC := Lib.hid (fun W => exact_any x[j] y[j] W)
        rw [hr] at HST HST2 HXC
        generalize x[j].1 = t at c0 HXC
        generalize x[j].2.1 = i at c1 HXC
        generalize x[j].2.2 = s at c2 HXC
        generalize y[j].1 = t' at d0 HXC
        generalize y[j].2.1 = i' at d1 HXC
        generalize y[j].2.2 = s' at d2 HXC
        obtain ⟨w1, hw1⟩ : ∃ w1 : World, wr.alloc (.cells #[.int .i64 t, .int .i64 i, .string s] 55) = w1 := ⟨_, rfl⟩
        obtain ⟨w2, hw2⟩ : ∃ w2 : World, w1.alloc (.cells #[.int .i64 t', .int .i64 i', .string s'] 55) = w2 := ⟨_, rfl⟩
        have gg : Grows wr w2 := hw2 ▸ (hw1 ▸ (Grows.new wr _)).alloc _
        have A2 : Blk w2 g1 #[.int .i64 t, .int .i64 i, .string s] 55 := hw2 ▸ (show Blk w1 g1 _ _ from hw1 ▸ Blk.new wr _ _ _ hg1.symm).later (Later.new _ _)
        have B2 : Blk w2 g2 #[.int .i64 t', .int .i64 i', .string s'] 55 := hw2 ▸ Blk.new _ _ _ _ (by rw [← hw1, ← hg2]; simp)
        have hs1 : w1.heap.size = g2 := by rw [← hw1, ← hg2]; simp
        have HGG := Lib.hid gg
        have l1 : Later wr w1 := hw1 ▸ Later.new _ _
        have e0 := l1.cell d0
        have e1 := l1.cell d1
        have e2 := l1.cell d2
        have k0 := A2.cell 0 _ rfl
        have k1 := A2.cell 1 _ rfl
        have k2 := A2.cell 2 _ rfl
        have q0 := B2.cell 0 _ rfl
        have q1 := B2.cell 1 _ rfl
        have q2 := B2.cell 2 _ rfl
        clear d0 d1 d2 hg2 gg A2 B2 l1 gr hr hge
        go_wp2_with fail
        refine (HXC.out _).mono ?_
        rintro e w3 ⟨rfl, g3⟩
        have HG3 := Lib.hid ((HGR.out.trans HGG.out).trans g3)
        clear HXC k0 k1 k2 q0 q1 q2 e0 e1 e2 c0 c1 c2 g3 hw1 hw2 hs1 hg1
        by_cases h0 : r = 0
        · have HN0 := Lib.hid (HST2.out h0)
          have hb : (r != 0) = false := by simp [h0]
          clear h0 HST HST2
          go_wp2_with fail
          go_roundw
          all_goals first
            | exact CfI.mk _ (j + 1) (by go_num) (by omega) (by omega) HN0.out HG3.out
            | (simp [intOf]; omega)
        · have HN0 := Lib.hid (show v = r by rw [HST.out, if_pos h0])
          have hb : (r != 0) = true := by simp [h0]
          clear h0 HST HST2
          go_wp2_with fail
          go_ret
          rw [HN0.out]
          exact ⟨rfl, HG3.out⟩
    · have HE := Lib.hid (show v = if j < y.length then -1 else 0 from HEX.out.trans (exR_end (by have := HN.out; omega)))
      clear gr
      by_cases hnm : n < m
      · have hni : (n : Int) < (m : Int) := by omega
        have HE2 := Lib.hid (show v = -1 by rw [HE.out, if_pos (by have := HN.out; have := HM.out; omega)])
        go_wp2_with fail
        go_ret
        rw [HE2.out]
        exact ⟨rfl, HGR.out⟩
      · have hni : ¬ (n : Int) < (m : Int) := by omega
        have HE2 := Lib.hid (show v = 0 by rw [HE.out, if_neg (by have := HN.out; have := HM.out; omega)])
        go_wp2_with fail
        go_ret
        rw [HE2.out]
        exact ⟨rfl, HGR.out⟩
/-- The closure of sorted. -/
theorem sorted1_anyW (A B : Option Addr) (n m ca cb : Nat) (x y : List Val3) (w : World) (hn : n = x.length) (hm : m = y.length) (hl : n ≤ 9223372036854775807) (hl2 : m ≤ 9223372036854775807) (ha : Has w A (fl x)) (hb : Has w B (fl y)) :
    Calls Tryz.prog 53 #[.slice A n ca, .slice B m cb] w (GrowsInt (exR x y) w) := by
  have H := Lib.hid (compareRows_anyW A B n m ca cb x y w hn hm hl hl2 ha hb)
  clear hn hm ha hb
  go_enter Tryz.func53, Tryz.ntmps53
  go_wp2_with fail
  refine H.out.mono ?_
  rintro e w2 ⟨rfl, g⟩
  have HG := Lib.hid g
  clear H g
  go_wp2_with fail
  go_ret
  exact ⟨rfl, HG.out⟩

/-- Rows that the sort may be asked about: they do not lie in block g. -/
abbrev RowInW (g : Nat) (w : World) := { s : SlV // s.okX (some g) w ∧ s.l.length ≤ 9223372036854775807 }
instance (g : Nat) (w : World) : Inhabited (RowInW g w) := ⟨⟨⟨none, 0, []⟩, ⟨.inl rfl, Nat.zero_le _, Nat.zero_le _, fun _ => rfl⟩, Nat.zero_le _⟩⟩
def encRowW {g : Nat} {w : World} (s : RowInW g w) : Value := s.1.v
def cfRowW {g : Nat} {w : World} (s t : RowInW g w) : Int := exR s.1.l t.1.l
theorem swo_rowW (g : Nat) (w : World) : Go.Sort.SWO (Go.Proofs.ltOf (cfRowW (g := g) (w := w))) where
  irrefl x := by unfold Go.Proofs.ltOf cfRowW; rw [exR_X.self]; rfl
  trans x y z h1 h2 := by
    unfold Go.Proofs.ltOf cfRowW at *
    rw [decide_eq_true_eq] at *
    exact exR_X.strict h1 (Int.le_of_lt h2)
  ntrans x y z h1 h2 := by
    unfold Go.Proofs.ltOf cfRowW at *
    rw [decide_eq_false_iff_not] at *
    have a := exR_X.turn x.1.l y.1.l
    have b := exR_X.turn y.1.l z.1.l
    have c := exR_X.turn x.1.l z.1.l
    have := exR_X.trans z.1.l y.1.l x.1.l (by omega) (by omega)
    omega
set_option maxRecDepth 100000 in
theorem sortR_anyW (g cap : Nat) (ss : List SlV) (n base : Nat) (w : World) (hn : n = ss.length) (hl : n ≤ 1000) (hbase : base ≤ g) (ho : w.ownsRow base 27 1 (.slice (some ⟨g, 0, none⟩) n cap) n (ss.map SlV.v)) (hg : g < w.heap.size) (hx : ∀ s ∈ ss, s.okX (some g) w) (hlen : ∀ s ∈ ss, s.l.length ≤ 9223372036854775807) :
    Calls Tryz.prog 52 #[.slice (some ⟨g, 0, none⟩) n cap, .func (.func 53) #[] #[]] w fun e w' => e = .returned (.tuple #[]) ∧ ∃ ts : List SlV, ts.length = n ∧ (ts.map (·.l)).Perm (ss.map (·.l)) ∧ (ts.map (·.l)).Pairwise (fun x y => exR x y ≤ 0) ∧ RowsAt w' (some ⟨g, 0, none⟩) ts ∧ Below base w w' := by
  have eg : ∀ args w, (callFunc 53 args).run Tryz.prog w = .ok (.enter 53 args) w := enters_of Tryz.func53 (by kernel_rfl) rfl
  obtain ⟨d, hd1⟩ : ∃ d : List (RowInW g w), d.map (fun s => s.1) = ss := ⟨ss.attach.map fun s => ⟨s.1, hx s.1 s.2, hlen s.1 s.2⟩, by
    rw [List.map_map]
    exact List.attach_map_subtype_val ss⟩
  have hdl : d.length = n := by rw [hn, ← hd1, List.length_map]
  have henc : d.map encRowW = ss.map SlV.v := by
    rw [← hd1, List.map_map]; rfl
  have hH : Go.Sort.Holds encRowW w g 0 d.toArray := by
    intro j hj
    have hj' : j < d.length := by simpa using hj
    have h1 := ho.cellAt j (by omega)
    have hv : (ss.map SlV.v)[j]? = some (encRowW d[j]) := by rw [← henc, List.getElem?_map, List.getElem?_eq_getElem hj']; rfl
    rw [hv] at h1
    rw [Nat.zero_add, getElem!_pos d.toArray j hj, List.getElem_toArray]
    exact ⟨h1, ho.frozenAt j⟩
  have hcon := Any.slices_SortFunc Tryz.sortR encRowW (fun _ => rfl) cfRowW (swo_rowW g w) 53 #[] g 0 cap d.toArray w eg (fun m os dk hdk x y => by
    have gr := sortWorld_grown encRowW w g m dk os hg
    have h := sorted1_anyW x.1.a y.1.a x.1.l.length y.1.l.length x.1.c y.1.c x.1.l y.1.l _ rfl rfl x.2.2 y.2.2 (x.2.1.1.grown gr (.inl rfl)).has (y.2.1.1.grown gr (.inl rfl)).has
    exact h) hH hg (by simp; omega)
  change Calls Tryz.prog 52 _ _ _ at hcon
  rw [List.size_toArray, hdl] at hcon
  refine hcon.mono ?_
  rintro e w' ⟨rfl, d', k, os, ⟨hps, _, hpp⟩, hso, rfl⟩
  have hps : d'.size = n := by simpa [hdl] using hps
  have gr := sortWorld_grown encRowW w g k d' os hg
  refine ⟨rfl, d'.toList.map (fun s => s.1), by simp [hps], ?_, ?_, ⟨?_, fun s hs => ?_⟩, ?_⟩
  · have e1 : d'.extract 0 n = d' := by rw [← hps]; exact Array.extract_size
    have e2 : (d.toArray).extract 0 n = d.toArray := by
      have := Array.extract_size (xs := d.toArray)
      rwa [List.size_toArray, hdl] at this
    rw [e1, e2] at hpp
    have h2 : d'.toList.Perm d := by simpa using hpp
    have h3 := (h2.map (fun s => s.1)).map (fun s : SlV => s.l)
    rwa [hd1] at h3
  · rw [List.map_map, List.pairwise_map, List.pairwise_iff_getElem]
    intro i j hi hj hij
    rw [Array.length_toList] at hi hj
    have h := hso i j (Nat.zero_le _) hij (by omega)
    rw [getElem!_pos d' i hi, getElem!_pos d' j hj] at h
    unfold Go.Proofs.ltOf cfRowW at h
    rw [decide_eq_false_iff_not] at h
    have := exR_X.turn d'[i].1.l d'[j].1.l
    simp only [Function.comp, Array.getElem_toList]
    omega
  · have hH2 := Go.Proofs.holds_sortWorld encRowW w g 0 k d.toArray d' os hg hH (by simp [hps, hdl])
    refine .inr ⟨g, 0, rfl, Nat.lt_of_lt_of_le hg gr.size, fun j v hv => ?_⟩
    rw [List.map_map] at hv
    have hj := (List.getElem?_eq_some_iff.1 hv).1
    rw [List.length_map, Array.length_toList] at hj
    have h1 := (hH2 j hj).1
    rw [getElem!_pos d' j hj, Nat.zero_add] at h1
    rw [List.getElem?_map, List.getElem?_eq_getElem (by rw [Array.length_toList]; exact hj)] at hv
    injection hv with hv
    rw [Nat.zero_add, h1, ← hv, Array.getElem_toList]; rfl
  · obtain ⟨r, hr, rfl⟩ := List.mem_map.1 hs
    exact ⟨(r.2.1.1.grown gr (.inl rfl)).weak, r.2.1.2⟩
  · exact (Below.refl _ _).grown gr (by omega) fun q hq => by injection hq with hq; omega

set_option maxRecDepth 100000 in
theorem bsorted_anyW (A : Option Addr) (n c : Nat) (ss : List SlV) (w : World) (hn : n = ss.length) (hl : n ≤ 1000) (hr : RowsAt w A ss) (hz : A = none → c = 0) (hlen : ∀ s ∈ ss, s.l.length ≤ 9223372036854775807) :
    Calls Tryz.prog 40 #[.slice A n c] w (SortedP (ss.map (·.l)) n w) := by
  have HC := Lib.hid (cloneR_any A n c ss w hn hl hr hz)
  have HR := Lib.hid hr
  have HN := Lib.hid hn
  have HLEN := Lib.hid hlen
  clear hn hr hz hlen
  go_enter Tryz.func40, Tryz.ntmps40
  go_wp2_with fail
  refine HC.out.mono ?_
  rintro e w1 ⟨B, cap, rfl, ho, hB, l1⟩
  have HL1 := Lib.hid l1
  clear HC
  by_cases h0 : ss = []
  · subst h0
    have hn0 : n = 0 := HN.out
    subst hn0
    clear ho l1
    go_wp2_with fail
    refine (sortR_none B cap _ w1).mono ?_
    rintro e w2 ⟨rfl, rfl⟩
    go_wp2_with fail
    go_ret
    exact ⟨B, cap, [], rfl, rfl, .refl _, List.Pairwise.nil, ⟨.inl rfl, fun s hs => by cases hs⟩, HL1.out⟩
  · have hp : 0 < n := by
      have := HN.out
      have := List.length_pos_iff.2 h0
      omega
    obtain ⟨g, cap', hv, hg, hlt⟩ := ho.form hp
    injection hv with hv1 _ hv2
    subst hv1 hv2
    have HS := Lib.hid (sortR_anyW g cap ss n w.heap.size w1 HN.out hl hg ho hlt (fun s hs => by
      obtain ⟨h1, h2⟩ := HR.out.2 s hs
      refine ⟨?_, h2⟩
      rcases h1 with h1 | ⟨b, off, hA, hb, _, hc⟩
      · exact .inl h1
      · exact .inr ⟨b, off, hA, Nat.lt_of_lt_of_le hb l1.size, (fun e => by injection e with e; omega), fun k v hv => l1.cell (hc k v hv)⟩) HLEN.out)
    clear ho l1 hg hlt hB h0
    go_wp2_with fail
    refine HS.out.mono ?_
    rintro e w2 ⟨rfl, ts, h1, h2, h3, h4, b2⟩
    have HP := Lib.hid (show SortedP (ss.map (·.l)) n w (.returned (.slice (some ⟨g, 0, none⟩) n cap)) w2 from ⟨_, _, ts, rfl, h1, h2, h3, h4, Later.of (HL1.out.below.trans b2)⟩)
    clear h1 h2 h3 h4 b2 HS
    go_wp2_with fail
    go_ret
    exact HP.out
set_option maxRecDepth 100000 in
theorem sameBag_anyW (A B : Option Addr) (n m c d : Nat) (ss ts : List SlV) (w : World) (hn : n = ss.length) (hm : m = ts.length) (hl : n ≤ 1000) (hl2 : m ≤ 1000) (ha : RowsAt w A ss) (hb : RowsAt w B ts) (za : A = none → c = 0) (zb : B = none → d = 0) (la : ∀ s ∈ ss, s.l.length ≤ 9223372036854775807) (lb : ∀ s ∈ ts, s.l.length ≤ 9223372036854775807) :
    Calls Tryz.prog 20 #[.slice A n c, .slice B m d] w (TellsP ((ss.map (·.l)).Perm (ts.map (·.l))) w) := by
  have HA := Lib.hid (bsorted_anyW A n c ss w hn hl ha za la)
  have HB := Lib.hid (fun W (l : Later w W) => bsorted_anyW B m d ts W hm hl2 (hb.later l) zb lb)
  have HLA := Lib.hid la
  have HLB := Lib.hid lb
  clear hn hm ha hb za zb la lb
  go_enter Tryz.func20, Tryz.ntmps20
  go_wp2_with fail
  refine HA.out.mono ?_
  rintro e w1 ⟨A1, c1, xs, rfl, x1, x2, x3, x4, l1⟩
  have HB1 := Lib.hid (HB.out w1 l1)
  have HL1 := Lib.hid l1
  have HX4 := Lib.hid x4
  clear x4 l1 HA HB
  go_wp2_with fail
  refine HB1.out.mono ?_
  rintro e w2 ⟨B1, d1, ys, rfl, y1, y2, y3, y4, l2⟩
  have len_of : ∀ {xs ss : List SlV}, (xs.map (·.l)).Perm (ss.map (·.l)) → (∀ s ∈ ss, s.l.length ≤ 9223372036854775807) → ∀ s ∈ xs, s.l.length ≤ 9223372036854775807 := fun {xs ss} hp h s hs => by
    have h1 := hp.mem_iff.1 (List.mem_map.2 ⟨s, hs, rfl⟩)
    obtain ⟨t, ht, e⟩ := List.mem_map.1 h1
    rw [← e]; exact h t ht
  have HS := Lib.hid (sameRows_anyW A1 B1 n m c1 d1 xs ys w2 x1.symm y1.symm hl hl2 (HX4.out.later l2) y4 (len_of x2 HLA.out) (len_of y2 HLB.out))
  have HIFF := Lib.hid (show xs.map (·.l) = ys.map (·.l) ↔ (ss.map (·.l)).Perm (ts.map (·.l)) from ⟨fun h => x2.symm.trans (h ▸ y2), fun h => sorted_unique exR_X x3 y3 (x2.trans (h.trans y2.symm))⟩)
  have HL2 := Lib.hid (HL1.out.trans l2)
  clear len_of x1 x2 x3 y1 y2 y3 y4 l2 HB1
  go_wp2_with fail
  refine HS.out.mono ?_
  rintro e w3 ⟨r, hr, rfl, l3⟩
  have HP := Lib.hid (show TellsP ((ss.map (·.l)).Perm (ts.map (·.l))) w (.returned (.bool r)) w3 from ⟨r, hr.trans HIFF.out, rfl, HL2.out.trans l3⟩)
  clear hr l3 HS
  go_wp2_with fail
  go_ret
  exact HP.out
end Go.Proofs.YtlfmmhbaphnifaaRRRRGreatDoor
