/- The walk of SpaceApart. -/
import Derived.Test.YtnmldploafpbdaaDoorCov19
import Derived.BigQuiet
namespace Go.Proofs.YtnmldploafpbdaaDoor
open Go.RowKit
set_option linter.unusedVariables false

set_option maxRecDepth 100000 in
theorem spaceApart_skip (A B : Option Addr) (n ca nb cb : Nat) (aB aO : Addr) (w : World) (hs : S19 w aB aO) (h : ¬ (n ≤ 40 ∧ n ≤ nb)) :
    Calls Tryd.prog 4 #[.slice A n ca, .slice B nb cb] w fun e w' => e = .returned (.bool true) ∧ Later w w' := by
  have HB := Lib.hid (begun19_any aB aO w hs)
  clear hs
  go_enter Tryd.func4, Tryd.ntmps4
  go_wp2_with fail
  refine HB.out.mono ?_
  rintro e w1 ⟨rfl, l1⟩
  by_cases h1 : n ≤ 40
  · have d1 : decide ((40 : Int) < (n : Int)) = false := by simp; omega
    have d2 : decide (nb < n) = true := by simp; omega
    clear h
    go_wp2_with fail
    go_ret
    exact ⟨rfl, l1⟩
  · have d1 : decide ((40 : Int) < (n : Int)) = true := by simp; omega
    clear h
    go_wp2_with fail
    go_ret
    exact ⟨rfl, l1⟩

/-- The space, what is held of it, and who owns each block. -/
def Sa (w0 : World) (p g c go : Nat) (h : List (Nat × Nat)) (own : List Nat) (ls : List Bool) (A : Option Addr) (ca : Nat) (wr : World) : Prop :=
  Cov h ls ∧ OwnI h own ∧ Spc wr p 7 ls g c ∧ Row wr go 41 .i64 own ∧ HV wr w0.heap.size A h.length ca (exL h) ∧ (A = none → h.length = 0 ∧ ca = 0) ∧ Later w0 wr ∧ w0.heap.size ≤ g ∧ w0.heap.size ≤ go
section
variable {w0 wr w1 : World} {p g c go ca : Nat} {h : List (Nat × Nat)} {own : List Nat} {ls : List Bool} {A : Option Addr}
theorem Sa.cov (s : Sa w0 p g c go h own ls A ca wr) : Cov h ls := s.1
theorem Sa.owns (s : Sa w0 p g c go h own ls A ca wr) : OwnI h own := s.2.1
theorem Sa.sp (s : Sa w0 p g c go h own ls A ca wr) : Spc wr p 7 ls g c := s.2.2.1
theorem Sa.row (s : Sa w0 p g c go h own ls A ca wr) : Row wr go 41 .i64 own := s.2.2.2.1
theorem Sa.hv (s : Sa w0 p g c go h own ls A ca wr) : HV wr w0.heap.size A h.length ca (exL h) := s.2.2.2.2.1
theorem Sa.nil_ (s : Sa w0 p g c go h own ls A ca wr) : A = none → h.length = 0 ∧ ca = 0 := s.2.2.2.2.2.1
theorem Sa.la (s : Sa w0 p g c go h own ls A ca wr) : Later w0 wr := s.2.2.2.2.2.2.1
theorem Sa.bg (s : Sa w0 p g c go h own ls A ca wr) : w0.heap.size ≤ g := s.2.2.2.2.2.2.2.1
theorem Sa.bo (s : Sa w0 p g c go h own ls A ca wr) : w0.heap.size ≤ go := s.2.2.2.2.2.2.2.2
theorem Sa.later (s : Sa w0 p g c go h own ls A ca wr) (l : Later wr w1) : Sa w0 p g c go h own ls A ca w1 :=
  ⟨s.cov, s.owns, s.sp.later l, l.row s.row, s.hv.later l, s.nil_, s.la.trans l, s.bg, s.bo⟩
/-- The space has changed. -/
theorem Sa.turned {ls' : List Bool} (s : Sa w0 p g c go h own ls A ca wr) (hg : wr.grownBy w1 (some g)) (hs : Spc w1 p 7 ls' g c) : Row w1 go 41 .i64 own ∧ HV w1 w0.heap.size A h.length ca (exL h) ∧ Later w0 w1 := by
  obtain ⟨cs, hb⟩ := own_blk s.sp.2.2
  exact ⟨s.row.grown hg (by intro e; injection e with e; exact type_ne' s.row hb (by decide) e), s.hv.grown hg hb (by decide), s.la.only hg s.bg⟩
theorem space_far {w0 wr w1 : World} {p g c go ca n : Nat} {l : List (Int × Int)} {own : List Nat} {ls : List Bool} {A : Option Addr} (hsp : Spc wr p 7 ls g c) (hrow : Row wr go 41 .i64 own) (hhv : HV wr w0.heap.size A n ca l) (hg : wr.grownBy w1 (some g)) : Row w1 go 41 .i64 own ∧ HV w1 w0.heap.size A n ca l := by
  obtain ⟨cs, hb⟩ := own_blk hsp.2.2
  exact ⟨hrow.grown hg (by intro e; injection e with e; exact type_ne' hrow hb (by decide) e), hhv.grown hg hb (by decide)⟩
theorem ext_far {w w1 : World} {x y : Nat} {cs cs' : Array Value} {t : TypeId} (hb : Blk w x cs 30) (hg : w.grownBy w1 (some y)) (hy : w.heap[y]? = some (.cells cs' t (0, 0))) (ht : t ≠ 30) : Blk w1 x cs 30 :=
  hb.grown hg (by intro e; injection e with e; exact type_ne' hy hb ht e.symm)
/-- The owners have changed. -/
theorem owner_far {w0 wr w1 : World} {p g c go ca n : Nat} {l : List (Int × Int)} {own : List Nat} {ls : List Bool} {A : Option Addr} (hsp : Spc wr p 7 ls g c) (hrow : Row wr go 41 .i64 own) (hhv : HV wr w0.heap.size A n ca l) (hg : wr.grownBy w1 (some go)) : Spc w1 p 7 ls g c ∧ HV w1 w0.heap.size A n ca l := by
  obtain ⟨cs, hb⟩ := own_blk hsp.2.2
  have h1 : p ≠ go := type_ne' hsp.1 hrow (by decide)
  have h2 : g ≠ go := type_ne' hb hrow (by decide)
  exact ⟨⟨hsp.1.grown hg (by intro e; injection e with e; exact h1 e), hsp.2.1, own_only rfl hsp.2.2 hg h2⟩, hhv.grown hg hrow (by decide)⟩
end
/-- A cell of a slice of bytes. -/
theorem Has.byte {w : World} {A : Option Addr} {l : List Nat} (h : Has w A (ints .u8 l)) (j : Nat) (hj : j < l.length) : ∃ b o, A = some ⟨b, o, none⟩ ∧ w.cell? ⟨b, o + j, none⟩ = some (.int .u8 (l[j] : Int)) := by
  rcases h with h | ⟨b', o', h1, _, h3⟩
  · have := congrArg List.length h
    rw [ints_length] at this
    rw [show l.length = 0 from this] at hj
    omega
  · exact ⟨b', o', h1, h3 j _ (ints_get _ _ _ hj)⟩
def OwnL (go a m : Nat) (own : List Nat) (v : Nat) (w : World) (kv : Value) (wr : World) : Prop :=
  ∃ q : Nat, q ≤ m ∧ kv = .int .i64 ((a : Int) + (q : Int)) ∧ Row wr go 41 .i64 (setN own a q v) ∧ w.grownBy wr (some go)
theorem OwnL.mk {go a m : Nat} {own : List Nat} {v : Nat} {w wr : World} (k : Int) (q : Nat) (hk : k = (a : Int) + (q : Int)) (hq : q ≤ m) (h1 : Row wr go 41 .i64 (setN own a q v)) (h2 : w.grownBy wr (some go)) : OwnL go a m own v w (.int .i64 k) wr := by
  subst hk; exact ⟨q, hq, rfl, h1, h2⟩
theorem info_ext2 : (Tryd.prog.info? 30).map (fun i => (i.zero, i.size, i.bytes)) = some (some (.agg #[.int .i64 0, .int .i64 0]), 2, 16) := by kernel_rfl
/-- Kept from the walk. -/
def Held (p : Prop) : Prop := p
theorem Held.of {p : Prop} (h : Held p) : p := h
theorem drewN_only (w : World) (q : Nat) (row : Option Nat) : w.grownBy (w.drewN q) row := ⟨rfl, rfl, rfl, Nat.le_refl _, fun _ _ _ => rfl⟩
theorem Row.drewN {w : World} {g : Nat} {t : TypeId} {k : IntKind} {l : List Nat} (h : Row w g t k l) (q : Nat) : Row (w.drewN q) g t k l := h
theorem sumN_take (h : List (Nat × Nat)) (q : Nat) : sumN (h.take q) ≤ sumN h := by
  have : sumN h = sumN (h.take q) + sumN (h.drop q) := by
    unfold sumN
    rw [← List.sum_append, ← List.map_append, List.take_append_drop]
  omega
def SumI (h : List (Nat × Nat)) (n : Nat) (w : World) (uv iv : Value) (wr : World) : Prop :=
  ∃ q : Nat, iv = .int .i64 q ∧ uv = .int .i64 (sumN (h.take q)) ∧ q ≤ n ∧ wr = w
theorem SumI.mk {h : List (Nat × Nat)} {n : Nat} {w wr : World} (u a : Int) (q : Nat) (ha : a = (q : Int)) (hu : u = (sumN (h.take q) : Int)) (hq : q ≤ n) (hw : wr = w) : SumI h n w (.int .i64 u) (.int .i64 a) wr := by
  subst ha hu; exact ⟨q, rfl, rfl, hq, hw⟩
def FreI (w0 : World) (p g c n : Nat) (A : Option Addr) (ca : Nat) (h : List (Nat × Nat)) (iv : Value) (wr : World) : Prop :=
  ∃ (q : Nat) (ls : List Bool), iv = .int .i64 q ∧ q ≤ n ∧ Cov (h.drop q) ls ∧ Spc wr p 7 ls g c ∧ HV wr w0.heap.size A n ca (exL h) ∧ Later w0 wr
theorem FreI.mk {w0 : World} {p g c n : Nat} {A : Option Addr} {ca : Nat} {h : List (Nat × Nat)} {wr : World} {ls : List Bool} (a : Int) (q : Nat) (ha : a = (q : Int)) (hq : q ≤ n) (h1 : Cov (h.drop q) ls) (h2 : Spc wr p 7 ls g c) (h3 : HV wr w0.heap.size A n ca (exL h)) (h4 : Later w0 wr) : FreI w0 p g c n A ca h (.int .i64 a) wr := by
  subst ha; exact ⟨q, ls, rfl, hq, h1, h2, h3, h4⟩
def ApI (w0 : World) (p g c go L : Nat) (hv iv : Value) (wr : World) : Prop :=
  ∃ (i n : Nat) (h : List (Nat × Nat)) (own : List Nat) (ls : List Bool) (A : Option Addr) (ca : Nat), hv = .slice A n ca ∧ iv = .int .i64 i ∧ i ≤ L ∧ h.length = n ∧ n ≤ i ∧ Sa w0 p g c go h own ls A ca wr
theorem ApI.mk {w0 wr : World} {p g c go L ca n : Nat} {h : List (Nat × Nat)} {own : List Nat} {ls : List Bool} {A : Option Addr} (a : Int) (i : Nat) (ha : a = (i : Int)) (hi : i ≤ L) (hn : h.length = n) (ht : n ≤ i) (s : Sa w0 p g c go h own ls A ca wr) : ApI w0 p g c go L (.slice A n ca) (.int .i64 a) wr := by
  subst ha; exact ⟨i, n, h, own, ls, A, ca, rfl, rfl, hi, hn, ht, s⟩

set_option maxRecDepth 100000 in
set_option maxHeartbeats 16000000 in
theorem spaceApart_walk (A B : Option Addr) (n ca nb cb : Nat) (l : List Nat) (bk : List Bool) (aB aO : Addr) (w : World) (hs : S19 w aB aO) (hn : n = l.length) (hnb : nb = bk.length) (h40 : n ≤ 40) (hnn : n ≤ nb) (hr : Has w A (ints .u8 l)) (h256 : ∀ x ∈ l, x < 256) (hrb : Has w B (bools bk)) :
    Calls Tryd.prog 4 #[.slice A n ca, .slice B nb cb] w fun e w' => e = .returned (.bool true) ∧ Later w w' := by
  have HB := Lib.hid (begun19_any aB aO w hs)
  have HS := Lib.hid hs
  have HR := Lib.hid hr
  have HRB := Lib.hid hrb
  have H256 := Lib.hid h256
  have HN := Lib.hid hn
  have HNB := Lib.hid hnb
  have d1 : decide ((40 : Int) < (n : Int)) = false := by simp; omega
  have d2 : decide (nb < n) = false := by simp; omega
  clear hs hr hrb h256 hn hnb
  go_enter Tryd.func4, Tryd.ntmps4
  go_wp2_with fail
  refine HB.out.mono ?_
  rintro e w1 ⟨rfl, l1⟩
  have HNW := Lib.hid (spaceNew_any 7 50 w1)
  have HL1 := Lib.hid l1
  clear l1 HB
  go_wp2_with fail
  refine HNW.out.mono ?_
  rintro e w2 ⟨p, g, c, rfl, sp2, l2, hp, hg⟩
  have sp2 : Spc w2 p 7 (List.replicate 50 false) g c := sp2
  have HG := Lib.hid (show w.heap.size ≤ g by have := HL1.out.size; omega)
  have HL2 := Lib.hid (HL1.out.trans l2)
  have HSP := Lib.hid sp2
  clear sp2 l2 hp hg HL1 HNW
  go_wp2_with fail
  change Code.wp _ _ _ _ (w2.alloc (.cells (ints .i64 (List.replicate 60 0)).toArray 41))
  have HSA := Lib.hid (show Sa w p g c w2.heap.size [] (List.replicate 60 0) (List.replicate 50 false) none 0 (w2.alloc (.cells (ints .i64 (List.replicate 60 0)).toArray 41)) from ⟨Cov.nil_, OwnI.nil_, HSP.out.later (Later.new _ _), Row.lit _ _ _ _, HV.nil_ _ _ _, (fun _ => ⟨rfl, rfl⟩), HL2.out.alloc _, HG.out, HL2.out.size⟩)
  obtain ⟨w3, hw3⟩ : ∃ x, w2.alloc (.cells (ints .i64 (List.replicate 60 0)).toArray 41) = x := ⟨_, rfl⟩
  rw [hw3] at HSA ⊢
  obtain ⟨go, hgo⟩ : ∃ x, w2.heap.size = x := ⟨_, rfl⟩
  rw [hgo] at HSA ⊢
  clear hw3 hgo HSP HL2 HG
  go_loopw [7, 8] (fun hv iv wr => ApI w p g c go n hv iv wr) (fun _ iv _ => n - (intOf iv).toNat)
  case atStart => exact ApI.mk 0 0 rfl (Nat.zero_le _) rfl (Nat.le_refl _) HSA.out
  case round =>
    obtain ⟨i, n', h, own, ls, HA, ca', rfl, rfl, hi, hnl, hni, sa⟩ := hrel
    have HNL := Lib.hid hnl
    clear hnl
    by_cases hlt : i < n
    · have hlt' : i < l.length := by rw [← HN.out]; exact hlt
      obtain ⟨ab, off, rfl, vcell⟩ := (HR.out.later sa.la).byte i hlt'
      have hv256 := H256.out _ (List.getElem_mem hlt')
      obtain ⟨v, hv⟩ : ∃ v, v = l[i] := ⟨_, rfl⟩
      rw [← hv] at vcell hv256
      have HVV := Lib.hid (show l[i]? = some v by rw [List.getElem?_eq_getElem hlt', hv])
      obtain ⟨m, hm⟩ : ∃ m : Nat, (v : Int) % 9 = (m : Int) := ⟨v % 9, by omega⟩
      have hm8 : m ≤ 8 := by omega
      have HT := Lib.hid (spaceTake_any p 7 ls g c (m : Int) aB aO wr sa.sp (HS.out.later sa.la) (by decide) (by decide) (by rw [sa.cov.1]; decide))
      obtain ⟨o, ho⟩ : ∃ o, fstS ls (m : Int) = o := ⟨_, rfl⟩
      have HO := Lib.hid ho
      have HSA := Lib.hid sa
      rw [ho] at HT
      clear hv ho sa hlt'
      go_wp2_with fail
      refine HT.out.mono ?_
      intro e wE hE
      rcases o with _ | j
      · obtain ⟨rfl, lE⟩ := hE.no
        have HSX := Lib.hid (HSA.out.later (lE.alloc (.cells #[.int .i64 0, .int .i64 0] 30)))
        clear hE lE HT vcell
        obtain ⟨bb, boff, rfl, bcell⟩ := (HRB.out.later HSX.out.la).bool i (by rw [← HNB.out]; omega)
        obtain ⟨x, hx⟩ : ∃ x, x = bk[i]'(by rw [← HNB.out]; omega) := ⟨_, rfl⟩
        rw [← hx] at bcell
        clear hx
        have hinb : i < nb := by omega
        cases x
        · go_wp2_with fail
          go_roundw
          case rel => exact ApI.mk _ (i + 1) (by go_num) (by omega) HNL.out (by omega) HSX.out
          case measure => simp [intOf]; omega
        · by_cases hn0 : n' = 0
          · subst hn0
            go_wp2_with fail
            go_roundw
            case rel => exact ApI.mk _ (i + 1) (by go_num) (by omega) HNL.out (by omega) HSX.out
            case measure => simp [intOf]; omega
          · have hd0 : decide ((0 : Int) < (n' : Int)) = true := by simp; omega
            obtain ⟨⟨j', m'⟩, t, rfl⟩ : ∃ x t, h = x :: t := by
              rcases h0 : h with _ | ⟨x, t⟩
              · have := HNL.out; rw [h0] at this; exact absurd this.symm hn0
              · exact ⟨x, t, rfl⟩
            obtain ⟨hb, hoff, rfl, hbl, c0, c1, hc1, hcm, hvt, hcn⟩ := HV.head HSX.out.hv
            have c0 : (wE.alloc (.cells #[.int .i64 0, .int .i64 0] 30)).cell? ⟨hb, hoff, none⟩ = some (.int .i64 (7 + (j' : Int))) := c0
            have c1 : (wE.alloc (.cells #[.int .i64 0, .int .i64 0] 30)).cell? ⟨hb, hoff + 1, none⟩ = some (.int .i64 (m' : Int)) := c1
            have HVT := Lib.hid hvt
            have HFR := Lib.hid (Cov.free HSX.out.cov)
            have HBJ := Lib.hid (HSX.out.cov.2.2.2.1 (j', m') (List.mem_cons_self ..))
            have L12 := Later.new (wE.alloc (.cells #[.int .i64 0, .int .i64 0] 30)) (.cells #[.int .i64 (7 + (j' : Int)), .int .i64 m'] 30)
            have B12 := Blk.new (wE.alloc (.cells #[.int .i64 0, .int .i64 0] 30)) #[.int .i64 (7 + (j' : Int)), .int .i64 m'] 30 (wE.heap.size + 1) (by simp)
            have u0 := (Blk.new (wE.alloc (.cells #[.int .i64 0, .int .i64 0] 30)) #[.int .i64 0, .int .i64 0] 30 (wE.heap.size + 1) (by simp)).frozen 0
            have u1 := (Blk.new (wE.alloc (.cells #[.int .i64 0, .int .i64 0] 30)) #[.int .i64 0, .int .i64 0] 30 (wE.heap.size + 1) (by simp)).frozen 1
            have HS12 := Lib.hid (HSX.out.later L12)
            have HVT12 := Lib.hid (hvt.later L12)
            have HB12 := Lib.hid B12
            obtain ⟨w12, hw12⟩ : ∃ x, (wE.alloc (.cells #[.int .i64 0, .int .i64 0] 30)).alloc (.cells #[.int .i64 (7 + (j' : Int)), .int .i64 m'] 30) = x := ⟨_, rfl⟩
            rw [hw12] at HS12 HVT12 HB12 B12
            have e0 := B12.cell 0 _ rfl
            have e1 := B12.cell 1 _ rfl
            have HF1 := Lib.hid (spaceFree_any p 7 _ g c (7 + (j' : Int)) m' aB aO w12 HS12.out.sp (HS.out.later HS12.out.la) (by decide) (by decide) (by rw [HS12.out.cov.1]; decide) (by have := HBJ.out.2; omega))
            clear hvt L12 B12
            have HNT := Lib.hid (show t.length = n' - 1 by have := HNL.out; rw [List.length_cons] at this; omega)
            have HCN := Lib.hid hcn
            by_cases hca : ca' = 1
            · subst hca
              have hn1 : n' - 1 = 0 := by have := HCN.out rfl; have := HNL.out; omega
              have ht0 : t = [] := List.eq_nil_of_length_eq_zero (HNT.out.trans hn1)
              subst ht0
              have HVA := Lib.hid (show HV w12 w.heap.size (some ⟨hb, hoff, none⟩) (n' - 1) 0 (exL []) by rw [hn1]; exact HV.nil_ _ _ _)
              go_wp2_with fail
              refine HF1.out.mono ?_
              rintro e w13 ⟨rfl, s13, g13⟩
              rw [HFR.out.1] at s13 ⊢
              have hz1 : (some (setL ls j' m' false) : Option (List Bool)).isSome = true := rfl
              rw [hz1]
              have s13 : Spc w13 p 7 (setL ls j' m' false) g c := s13
              obtain ⟨row13, hv13⟩ := space_far HS12.out.sp HS12.out.row HVA.out g13
              obtain ⟨gcs, hgcs⟩ := own_blk HS12.out.sp.2.2
              have e13 := ext_far HB12.out g13 hgcs (by decide)
              have la13 := HS12.out.la.only g13 HS12.out.bg
              have e0 := e13.cell 0 _ rfl
              have e1 := e13.cell 1 _ rfl
              have HF2 := Lib.hid (spaceFree_any p 7 _ g c (7 + (j' : Int)) m' aB aO w13 s13 (HS.out.later la13) (by decide) (by decide) (by rw [HFR.out.2.1.1]; decide) (by have := HBJ.out.2; omega))
              have HR13 := Lib.hid row13
              have HV13 := Lib.hid hv13
              have HE13 := Lib.hid e13
              have HL13 := Lib.hid la13
              have HSP13 := Lib.hid s13
              clear row13 hv13 hgcs e13 la13 s13 g13 hz1 HF1
              go_wp2_with fail
              refine HF2.out.mono ?_
              rintro e w14 ⟨rfl, s14, g14⟩
              rw [HFR.out.2.2] at s14 ⊢
              have hz2 : (none : Option (List Bool)).isSome = false := rfl
              rw [hz2]
              have s14 : Spc w14 p 7 (setL ls j' m' false) g c := s14
              obtain ⟨row14, hv14⟩ := space_far HSP13.out HR13.out HV13.out g14
              obtain ⟨gcs2, hgcs2⟩ := own_blk HSP13.out.2.2
              have e14 := ext_far HE13.out g14 hgcs2 (by decide)
              have la14 := HL13.out.only g14 HS12.out.bg
              have e0 := e14.cell 0 _ rfl
              have e1 := e14.cell 1 _ rfl
              have HR14 := Lib.hid row14
              have HV14 := Lib.hid hv14
              have HE14 := Lib.hid e14
              have HL14 := Lib.hid la14
              have HSP14 := Lib.hid s14
              clear row14 hv14 hgcs2 e14 la14 s14 g14 hz2 HF2
              go_wp2_with fail
              clear e0 e1
              go_loopw [13] (fun kv wy => OwnL go (7 + j') m' own 0 w14 kv wy) (fun kv _ => (7 + j' + m' - (intOf kv).toNat))
              case atStart => exact OwnL.mk _ 0 (by omega) (Nat.zero_le _) (by rw [setN_zero]; exact HR14.out) (World.grownBy.refl _ _)
              case round =>
                obtain ⟨q, hq, rfl, hrow, hgr⟩ := hrel
                have HROW := Lib.hid hrow
                have HGR := Lib.hid hgr
                have hex := ext_far HE14.out hgr HR14.out (by decide)
                have e0 := hex.cell 0 _ rfl
                have e1 := hex.cell 1 _ rfl
                have hjb2 : j' + m' ≤ 50 := HBJ.out.2
                have hlen := setN_len (l := own) (k := 7 + j') (j := q) 0 (by rw [HS12.out.owns.1]; have := HBJ.out.2; omega)
                have hkk : (((7 + j' : Nat) : Int) + (q : Int)) = ((7 + j' + q : Nat) : Int) := by omega
                by_cases hql : q < m'
                · have hb6 : 7 + j' + q < (setN own (7 + j') q 0).length := by rw [hlen, HS12.out.owns.1]; have := HBJ.out.2; omega
                  have hcell := hrow.cell (7 + j' + q) hb6
                  have hfr := hrow.frozen (7 + j' + q)
                  have hb60 : 7 + j' + q < 60 := by have := HBJ.out.2; omega
                  have hlt3 : decide (((7 + j' + q : Nat) : Int) < 7 + (j' : Int) + (m' : Int)) = true := by simp; omega
                  obtain ⟨y, hy⟩ : ∃ y, y = (setN own (7 + j') q 0)[7 + j' + q] := ⟨_, rfl⟩
                  rw [← hy] at hcell
                  have hset := hrow.set' (7 + j' + q) 0 0 rfl (setN own (7 + j') (q + 1) 0) (setN_step own (7 + j') q 0 (by rw [HS12.out.owns.1]; exact hb60))
                  have HSET := Lib.hid hset
                  have HG2 := Lib.hid (only_setCell hgr (p := ⟨go, 7 + j' + q, none⟩) (.inl rfl) (.int .i64 0))
                  rw [hkk]
                  obtain ⟨kq, hkq⟩ : ∃ kq, 7 + j' + q = kq := ⟨_, rfl⟩
                  rw [hkq] at hcell hfr hb60 hlt3 HSET HG2 ⊢
                  clear hrow hgr hex hlen hkk hb6 hy hset
                  go_wp2_with fail
                  go_roundw
                  case rel => exact OwnL.mk _ (q + 1) (by first | (go_num; done) | (go_num; omega)) (by omega) HSET.out HG2.out
                  case measure => simp [intOf]; omega
                · obtain rfl : q = m' := by omega
                  have hlt3 : decide (((7 + j' + q : Nat) : Int) < 7 + (j' : Int) + (q : Int)) = false := by first | (simp; done) | (simp; omega)
                  obtain ⟨spF, hvF⟩ := owner_far HSP14.out HR14.out HV14.out hgr
                  have HSF := Lib.hid (show Sa w p g c go _ (setN own (7 + j') q 0) (setL ls j' q false) (some ⟨hb, hoff, none⟩) 0 wr from ⟨HFR.out.2.1, HS12.out.owns.free HBJ.out.2, spF, hrow, (by rw [HNT.out]; exact hvF), (fun e => by cases e), HL14.out.only hgr HS12.out.bo, HS12.out.bg, HS12.out.bo⟩)
                  rw [hkk]
                  obtain ⟨kq, hkq⟩ : ∃ kq, 7 + j' + q = kq := ⟨_, rfl⟩
                  rw [hkq] at hlt3 ⊢
                  clear hrow hgr hex hlen hkk spF hvF hkq
                  go_wp2_with fail
                  go_roundw
                  case rel => exact ApI.mk _ (i + 1) (by go_num) (by omega) (by first | exact HNT.out | exact rfl) (by omega) HSF.out
                  case measure => simp [intOf]; omega
            · have HVA := Lib.hid (show HV w12 w.heap.size (some ⟨hb, hoff + 2, none⟩) (n' - 1) (ca' - 1) (exL t) by have := HVT12.out; rw [HNL.out] at this; exact this)
              go_wp2_with fail
              refine HF1.out.mono ?_
              rintro e w13 ⟨rfl, s13, g13⟩
              rw [HFR.out.1] at s13 ⊢
              have hz1 : (some (setL ls j' m' false) : Option (List Bool)).isSome = true := rfl
              rw [hz1]
              have s13 : Spc w13 p 7 (setL ls j' m' false) g c := s13
              obtain ⟨row13, hv13⟩ := space_far HS12.out.sp HS12.out.row HVA.out g13
              obtain ⟨gcs, hgcs⟩ := own_blk HS12.out.sp.2.2
              have e13 := ext_far HB12.out g13 hgcs (by decide)
              have la13 := HS12.out.la.only g13 HS12.out.bg
              have e0 := e13.cell 0 _ rfl
              have e1 := e13.cell 1 _ rfl
              have HF2 := Lib.hid (spaceFree_any p 7 _ g c (7 + (j' : Int)) m' aB aO w13 s13 (HS.out.later la13) (by decide) (by decide) (by rw [HFR.out.2.1.1]; decide) (by have := HBJ.out.2; omega))
              have HR13 := Lib.hid row13
              have HV13 := Lib.hid hv13
              have HE13 := Lib.hid e13
              have HL13 := Lib.hid la13
              have HSP13 := Lib.hid s13
              clear row13 hv13 hgcs e13 la13 s13 g13 hz1 HF1
              go_wp2_with fail
              refine HF2.out.mono ?_
              rintro e w14 ⟨rfl, s14, g14⟩
              rw [HFR.out.2.2] at s14 ⊢
              have hz2 : (none : Option (List Bool)).isSome = false := rfl
              rw [hz2]
              have s14 : Spc w14 p 7 (setL ls j' m' false) g c := s14
              obtain ⟨row14, hv14⟩ := space_far HSP13.out HR13.out HV13.out g14
              obtain ⟨gcs2, hgcs2⟩ := own_blk HSP13.out.2.2
              have e14 := ext_far HE13.out g14 hgcs2 (by decide)
              have la14 := HL13.out.only g14 HS12.out.bg
              have e0 := e14.cell 0 _ rfl
              have e1 := e14.cell 1 _ rfl
              have HR14 := Lib.hid row14
              have HV14 := Lib.hid hv14
              have HE14 := Lib.hid e14
              have HL14 := Lib.hid la14
              have HSP14 := Lib.hid s14
              clear row14 hv14 hgcs2 e14 la14 s14 g14 hz2 HF2
              go_wp2_with fail
              clear e0 e1
              go_loopw [13] (fun kv wy => OwnL go (7 + j') m' own 0 w14 kv wy) (fun kv _ => (7 + j' + m' - (intOf kv).toNat))
              case atStart => exact OwnL.mk _ 0 (by omega) (Nat.zero_le _) (by rw [setN_zero]; exact HR14.out) (World.grownBy.refl _ _)
              case round =>
                obtain ⟨q, hq, rfl, hrow, hgr⟩ := hrel
                have HROW := Lib.hid hrow
                have HGR := Lib.hid hgr
                have hex := ext_far HE14.out hgr HR14.out (by decide)
                have e0 := hex.cell 0 _ rfl
                have e1 := hex.cell 1 _ rfl
                have hjb2 : j' + m' ≤ 50 := HBJ.out.2
                have hlen := setN_len (l := own) (k := 7 + j') (j := q) 0 (by rw [HS12.out.owns.1]; have := HBJ.out.2; omega)
                have hkk : (((7 + j' : Nat) : Int) + (q : Int)) = ((7 + j' + q : Nat) : Int) := by omega
                by_cases hql : q < m'
                · have hb6 : 7 + j' + q < (setN own (7 + j') q 0).length := by rw [hlen, HS12.out.owns.1]; have := HBJ.out.2; omega
                  have hcell := hrow.cell (7 + j' + q) hb6
                  have hfr := hrow.frozen (7 + j' + q)
                  have hb60 : 7 + j' + q < 60 := by have := HBJ.out.2; omega
                  have hlt3 : decide (((7 + j' + q : Nat) : Int) < 7 + (j' : Int) + (m' : Int)) = true := by simp; omega
                  obtain ⟨y, hy⟩ : ∃ y, y = (setN own (7 + j') q 0)[7 + j' + q] := ⟨_, rfl⟩
                  rw [← hy] at hcell
                  have hset := hrow.set' (7 + j' + q) 0 0 rfl (setN own (7 + j') (q + 1) 0) (setN_step own (7 + j') q 0 (by rw [HS12.out.owns.1]; exact hb60))
                  have HSET := Lib.hid hset
                  have HG2 := Lib.hid (only_setCell hgr (p := ⟨go, 7 + j' + q, none⟩) (.inl rfl) (.int .i64 0))
                  rw [hkk]
                  obtain ⟨kq, hkq⟩ : ∃ kq, 7 + j' + q = kq := ⟨_, rfl⟩
                  rw [hkq] at hcell hfr hb60 hlt3 HSET HG2 ⊢
                  clear hrow hgr hex hlen hkk hb6 hy hset
                  go_wp2_with fail
                  go_roundw
                  case rel => exact OwnL.mk _ (q + 1) (by first | (go_num; done) | (go_num; omega)) (by omega) HSET.out HG2.out
                  case measure => simp [intOf]; omega
                · obtain rfl : q = m' := by omega
                  have hlt3 : decide (((7 + j' + q : Nat) : Int) < 7 + (j' : Int) + (q : Int)) = false := by first | (simp; done) | (simp; omega)
                  obtain ⟨spF, hvF⟩ := owner_far HSP14.out HR14.out HV14.out hgr
                  have HSF := Lib.hid (show Sa w p g c go _ (setN own (7 + j') q 0) (setL ls j' q false) (some ⟨hb, hoff + 2, none⟩) (ca' - 1) wr from ⟨HFR.out.2.1, HS12.out.owns.free HBJ.out.2, spF, hrow, (by rw [HNT.out]; exact hvF), (fun e => by cases e), HL14.out.only hgr HS12.out.bo, HS12.out.bg, HS12.out.bo⟩)
                  rw [hkk]
                  obtain ⟨kq, hkq⟩ : ∃ kq, 7 + j' + q = kq := ⟨_, rfl⟩
                  rw [hkq] at hlt3 ⊢
                  clear hrow hgr hex hlen hkk spF hvF hkq
                  go_wp2_with fail
                  go_roundw
                  case rel => exact ApI.mk _ (i + 1) (by go_num) (by omega) (by first | exact HNT.out | exact rfl) (by omega) HSF.out
                  case measure => simp [intOf]; omega
      · obtain ⟨rfl, sE, gE⟩ := hE.yes
        obtain ⟨m', hkm, hm1, hok, _⟩ := fstS_inv HO.out
        obtain rfl : m = m' := by omega
        have sE : Spc wE p 7 (setL ls j m true) g c := sE
        have hjm : j + m ≤ 50 := by have := hok.1; rw [HSA.out.cov.1] at this; exact this
        obtain ⟨rowE, hvE⟩ := space_far HSA.out.sp HSA.out.row HSA.out.hv gE
        have laE := HSA.out.la.only gE HSA.out.bg
        have L9 := Later.new wE (.cells #[.int .i64 (7 + (j : Int)), .int .i64 m] 30)
        have B9 := Blk.new wE #[.int .i64 (7 + (j : Int)), .int .i64 m] 30 wE.heap.size rfl
        have HS9 := Lib.hid (sE.later L9)
        have HR9 := Lib.hid (L9.row rowE)
        have HV9 := Lib.hid (hvE.later L9)
        have HL9 := Lib.hid (laE.trans L9)
        have HB9 := Lib.hid B9
        obtain ⟨w9, hw9⟩ : ∃ x, wE.alloc (.cells #[.int .i64 (7 + (j : Int)), .int .i64 m] 30) = x := ⟨_, rfl⟩
        rw [hw9] at HS9 HR9 HV9 HL9 HB9 B9
        have e0 := B9.cell 0 _ rfl
        have e1 := B9.cell 1 _ rfl
        have HOK := Lib.hid hok
        have HM1 := Lib.hid hm1
        have vcell : w9.cell? ⟨ab, off + i, none⟩ = some (.int .u8 (v : Int)) := by
          obtain ⟨b', o', h1, h2⟩ := (HR.out.later HL9.out).byte i (by rw [← HN.out]; exact hlt)
          injection h1 with h1
          injection h1 with h3 h4
          subst h3 h4
          have h5 := HVV.out
          rw [List.getElem?_eq_getElem (by rw [← HN.out]; exact hlt)] at h5
          injection h5 with h5
          rw [h2, h5]
        have f3 : decide ((m : Int) < 1) = false := by simp; omega
        have f4 : decide (7 + (j : Int) < 7) = false := by simp; omega
        have f5 : decide ((57 : Int) < 7 + (j : Int) + (m : Int)) = false := by simp; omega
        clear hE sE gE hkm hok hm1 rowE hvE laE L9 B9 HT
        go_wp2_with fail
        go_quiet (fail)
        go_wp2_with fail
        clear e0 e1 vcell f3 f4 f5
        have hi41 : IntKind.i64.wrap ((i : Int) + 1) = (i : Int) + 1 := IntWalk.i64_in _ ⟨by omega, by omega⟩
        go_loopw [11] (fun kv wy => OwnL go (7 + j) m own (i + 1) w9 kv wy) (fun kv _ => (7 + j + m - (intOf kv).toNat))
        case atStart => exact OwnL.mk _ 0 (by omega) (Nat.zero_le _) (by rw [setN_zero]; exact HR9.out.drewN _) (drewN_only _ _ _)
        case round =>
          obtain ⟨q, hq, rfl, hrow, hgr⟩ := hrel
          have HROW := Lib.hid hrow
          have HGR := Lib.hid hgr
          have hex := ext_far HB9.out hgr HR9.out (by decide)
          have e0 := hex.cell 0 _ rfl
          have e1 := hex.cell 1 _ rfl
          have hlen := setN_len (l := own) (k := 7 + j) (j := q) (i + 1) (by rw [HSA.out.owns.1]; omega)
          have hkk : (((7 + j : Nat) : Int) + (q : Int)) = ((7 + j + q : Nat) : Int) := by omega
          by_cases hql : q < m
          · have hb6 : 7 + j + q < (setN own (7 + j) q (i + 1)).length := by rw [hlen, HSA.out.owns.1]; omega
            have hcell := hrow.cell (7 + j + q) hb6
            have hval : (setN own (7 + j) q (i + 1))[7 + j + q] = 0 := by
              have h1 := setN_get own (7 + j) q (i + 1) (by rw [HSA.out.owns.1]; omega) (7 + j + q)
              rw [if_neg (by omega), HSA.out.owns.zero HSA.out.cov HOK.out q hql, List.getElem?_eq_getElem hb6] at h1
              injection h1
            rw [hval] at hcell
            have hcell : wr.cell? ⟨go, 7 + j + q, none⟩ = some (.int .i64 0) := hcell
            have hfr := hrow.frozen (7 + j + q)
            have hb60 : 7 + j + q < 60 := by omega
            have hlt3 : decide (((7 + j + q : Nat) : Int) < 7 + (j : Int) + (m : Int)) = true := by simp; omega
            have hset := hrow.set' (7 + j + q) (i + 1) ((i : Int) + 1) (by omega) (setN own (7 + j) (q + 1) (i + 1)) (setN_step own (7 + j) q (i + 1) (by rw [HSA.out.owns.1]; exact hb60))
            have HSET := Lib.hid hset
            have HG2 := Lib.hid (only_setCell hgr (p := ⟨go, 7 + j + q, none⟩) (.inl rfl) (.int .i64 ((i : Int) + 1)))
            rw [hkk]
            obtain ⟨kq, hkq⟩ : ∃ kq, 7 + j + q = kq := ⟨_, rfl⟩
            rw [hkq] at hcell hfr hb60 hlt3 HSET HG2 ⊢
            clear hrow hgr hex hlen hkk hb6 hset hval
            go_wp2_with fail
            go_roundw
            case rel => exact OwnL.mk _ (q + 1) (by first | (go_num; done) | (go_num; omega)) (by omega) HSET.out HG2.out
            case measure => simp [intOf]; omega
          · obtain rfl : q = m := by omega
            have hlt3 : decide (((7 + j + q : Nat) : Int) < 7 + (j : Int) + (q : Int)) = false := by first | (simp; done) | (simp; omega)
            obtain ⟨spF, hvF⟩ := owner_far HS9.out HR9.out HV9.out hgr
            have laF := HL9.out.only hgr HSA.out.bo
            have L17 := Later.new wr (.cells #[.int .i64 (7 + (j : Int)), .int .i64 q] 30)
            have HSPF := Lib.hid (spF.later L17)
            have HHVF := Lib.hid (hvF.later L17)
            have HROWF := Lib.hid (L17.row hrow)
            have HLAF := Lib.hid (laF.trans L17)
            have BL := Blk.new wr #[.int .i64 (7 + (j : Int)), .int .i64 q] 30 wr.heap.size rfl
            have HLC := Lib.hid (show (wr.alloc (.cells #[.int .i64 (7 + (j : Int)), .int .i64 q] 30)).cell? ⟨wr.heap.size, 0, none⟩ = some (.int .i64 (7 + (j : Int))) ∧ (wr.alloc (.cells #[.int .i64 (7 + (j : Int)), .int .i64 q] 30)).cell? ⟨wr.heap.size, 1, none⟩ = some (.int .i64 q) from ⟨BL.cell 0 _ rfl, BL.cell 1 _ rfl⟩)
            have hn40 : n' ≤ 40 := by omega
            have HN40 := Lib.hid hn40
            have HHV2 := Lib.hid (show HV (wr.alloc (.cells #[.int .i64 (7 + (j : Int)), .int .i64 q] 30)) w.heap.size HA n' ca' (exL h) by have := HHVF.out; rw [HNL.out] at this; exact this)
            have HNIL := Lib.hid (show HA = none → n' = 0 ∧ ca' = 0 by have := HSA.out.nil_; rw [HNL.out] at this; exact this)
            rw [hkk]
            obtain ⟨kq, hkq⟩ : ∃ kq, 7 + j + q = kq := ⟨_, rfl⟩
            rw [hkq] at hlt3 ⊢
            clear hrow hgr hex hlen hkk spF hvF hkq laF L17 BL hn40
            go_wp2_with (at_builtin; refine wpList_append_hv _ rfl (.tmp 96) (.tmp 98) 28 rfl Tryd.underlying28 info_ext2 w.heap.size HA n' ca' (exL h) rfl HHV2.out HNIL.out wr.heap.size 1 (7 + (j : Int)) q rfl HLC.out.1 HLC.out.2 (by have := HN40.out; omega) HLAF.out.size ?_; intro A2 cb2 wZ hv2 nl2 kp2 bl2; have HSZ := Lib.hid (And.intro hv2 (And.intro nl2 (And.intro kp2 bl2))); clear hv2 nl2 kp2 bl2; refine Held.of ?_)
            unfold Held
            obtain ⟨hv2, nl2, kp2, bl2⟩ := HSZ.out
            obtain ⟨h2, hh2⟩ : ∃ x, x = h ++ [(j, q)] := ⟨_, rfl⟩
            obtain ⟨own2, ho2⟩ : ∃ x, x = setN own (7 + j) q (i + 1) := ⟨_, rfl⟩
            obtain ⟨ls2, hl2⟩ : ∃ x, x = setL ls j q true := ⟨_, rfl⟩
            obtain ⟨nn, hnn2⟩ : ∃ x, x = n' + 1 := ⟨_, rfl⟩
            have hnl2 : h2.length = nn := by rw [hh2, List.length_append, HNL.out, hnn2]; rfl
            have HSX := Lib.hid (show Sa w p g c go h2 own2 ls2 A2 cb2 wZ from ⟨by rw [hh2, hl2]; exact HSA.out.cov.take HOK.out HM1.out, by rw [hh2, ho2]; exact HSA.out.owns.take hjm, by rw [hl2]; exact HSPF.out.keeps kp2, by rw [ho2]; exact HROWF.out.keeps (by decide) kp2, by rw [hnl2, hnn2, hh2, exL_snoc]; exact hv2, (fun e => by rw [hnl2, hnn2]; exact nl2 e), Later.of (HLAF.out.below.trans bl2), HSA.out.bg, HSA.out.bo⟩)
            have HNL2 := Lib.hid hnl2
            rw [← hnn2]
            have hnni : nn ≤ i + 1 := by omega
            have hn0 : ¬ nn = 0 := by omega
            have HNN2 := Lib.hid hnn2
            clear hv2 nl2 kp2 bl2 hh2 ho2 hl2 hnl2 HSZ HLC HHV2 HNIL HSPF HHVF HROWF HLAF e0 e1 hnn2
            obtain ⟨bb, boff, rfl, bcell⟩ := (HRB.out.later HSX.out.la).bool i (by rw [← HNB.out]; omega)
            obtain ⟨x, hx⟩ : ∃ x, x = bk[i]'(by rw [← HNB.out]; omega) := ⟨_, rfl⟩
            rw [← hx] at bcell
            clear hx
            have hinb : i < nb := by omega
            cases x
            · go_wp2_with fail
              go_roundw
              case rel => exact ApI.mk _ (i + 1) (by go_num) (by omega) HNL2.out (by omega) HSX.out
              case measure => simp [intOf]; omega
            · have hd0 : decide ((0 : Int) < (nn : Int)) = true := by simp; omega
              obtain ⟨⟨j', m'⟩, t, rfl⟩ : ∃ x t, h2 = x :: t := by
                rcases h0 : h2 with _ | ⟨x, t⟩
                · have := HNL2.out; rw [h0] at this; exact absurd this.symm hn0
                · exact ⟨x, t, rfl⟩
              obtain ⟨hb, hoff, rfl, hbl, c0, c1, hc1, hcm, hvt, hcn⟩ := HV.head HSX.out.hv
              have c0 : wZ.cell? ⟨hb, hoff, none⟩ = some (.int .i64 (7 + (j' : Int))) := c0
              have c1 : wZ.cell? ⟨hb, hoff + 1, none⟩ = some (.int .i64 (m' : Int)) := c1
              have HVT := Lib.hid hvt
              have HFR := Lib.hid (Cov.free HSX.out.cov)
              have HBJ := Lib.hid (HSX.out.cov.2.2.2.1 (j', m') (List.mem_cons_self ..))
              have L12 := Later.new wZ (.cells #[.int .i64 (7 + (j' : Int)), .int .i64 m'] 30)
              have B12 := Blk.new wZ #[.int .i64 (7 + (j' : Int)), .int .i64 m'] 30 wZ.heap.size rfl
              have u0 := (Blk.new wZ #[.int .i64 0, .int .i64 0] 30 wZ.heap.size rfl).frozen 0
              have u1 := (Blk.new wZ #[.int .i64 0, .int .i64 0] 30 wZ.heap.size rfl).frozen 1
              have HS12 := Lib.hid (HSX.out.later L12)
              have HVT12 := Lib.hid (hvt.later L12)
              have HB12 := Lib.hid B12
              obtain ⟨w12, hw12⟩ : ∃ x, wZ.alloc (.cells #[.int .i64 (7 + (j' : Int)), .int .i64 m'] 30) = x := ⟨_, rfl⟩
              rw [hw12] at HS12 HVT12 HB12 B12
              have e0 := B12.cell 0 _ rfl
              have e1 := B12.cell 1 _ rfl
              have HF1 := Lib.hid (spaceFree_any p 7 _ g c (7 + (j' : Int)) m' aB aO w12 HS12.out.sp (HS.out.later HS12.out.la) (by decide) (by decide) (by rw [HS12.out.cov.1]; decide) (by have := HBJ.out.2; omega))
              clear hvt L12 B12
              have HNT := Lib.hid (show t.length = nn - 1 by have := HNL2.out; rw [List.length_cons] at this; omega)
              have HCN := Lib.hid hcn
              by_cases hca : cb2 = 1
              · subst hca
                have hn1 : nn - 1 = 0 := by have := HCN.out rfl; have := HNL2.out; omega
                have ht0 : t = [] := List.eq_nil_of_length_eq_zero (HNT.out.trans hn1)
                subst ht0
                have HVA := Lib.hid (show HV w12 w.heap.size (some ⟨hb, hoff, none⟩) (nn - 1) 0 (exL []) by rw [hn1]; exact HV.nil_ _ _ _)
                go_wp2_with fail
                refine HF1.out.mono ?_
                rintro e w13 ⟨rfl, s13, g13⟩
                rw [HFR.out.1] at s13 ⊢
                have hz1 : (some (setL ls2 j' m' false) : Option (List Bool)).isSome = true := rfl
                rw [hz1]
                have s13 : Spc w13 p 7 (setL ls2 j' m' false) g c := s13
                obtain ⟨row13, hv13⟩ := space_far HS12.out.sp HS12.out.row HVA.out g13
                obtain ⟨gcs, hgcs⟩ := own_blk HS12.out.sp.2.2
                have e13 := ext_far HB12.out g13 hgcs (by decide)
                have la13 := HS12.out.la.only g13 HS12.out.bg
                have e0 := e13.cell 0 _ rfl
                have e1 := e13.cell 1 _ rfl
                have HF2 := Lib.hid (spaceFree_any p 7 _ g c (7 + (j' : Int)) m' aB aO w13 s13 (HS.out.later la13) (by decide) (by decide) (by rw [HFR.out.2.1.1]; decide) (by have := HBJ.out.2; omega))
                have HR13 := Lib.hid row13
                have HV13 := Lib.hid hv13
                have HE13 := Lib.hid e13
                have HL13 := Lib.hid la13
                have HSP13 := Lib.hid s13
                clear row13 hv13 hgcs e13 la13 s13 g13 hz1 HF1
                go_wp2_with fail
                refine HF2.out.mono ?_
                rintro e w14 ⟨rfl, s14, g14⟩
                rw [HFR.out.2.2] at s14 ⊢
                have hz2 : (none : Option (List Bool)).isSome = false := rfl
                rw [hz2]
                have s14 : Spc w14 p 7 (setL ls2 j' m' false) g c := s14
                obtain ⟨row14, hv14⟩ := space_far HSP13.out HR13.out HV13.out g14
                obtain ⟨gcs2, hgcs2⟩ := own_blk HSP13.out.2.2
                have e14 := ext_far HE13.out g14 hgcs2 (by decide)
                have la14 := HL13.out.only g14 HS12.out.bg
                have e0 := e14.cell 0 _ rfl
                have e1 := e14.cell 1 _ rfl
                have HR14 := Lib.hid row14
                have HV14 := Lib.hid hv14
                have HE14 := Lib.hid e14
                have HL14 := Lib.hid la14
                have HSP14 := Lib.hid s14
                clear row14 hv14 hgcs2 e14 la14 s14 g14 hz2 HF2
                go_wp2_with fail
                clear e0 e1
                go_loopw [13] (fun kv wy => OwnL go (7 + j') m' own2 0 w14 kv wy) (fun kv _ => (7 + j' + m' - (intOf kv).toNat))
                case atStart => exact OwnL.mk _ 0 (by omega) (Nat.zero_le _) (by rw [setN_zero]; exact HR14.out) (World.grownBy.refl _ _)
                case round =>
                  obtain ⟨q, hq, rfl, hrow, hgr⟩ := hrel
                  have HROW := Lib.hid hrow
                  have HGR := Lib.hid hgr
                  have hex := ext_far HE14.out hgr HR14.out (by decide)
                  have e0 := hex.cell 0 _ rfl
                  have e1 := hex.cell 1 _ rfl
                  have hjb2 : j' + m' ≤ 50 := HBJ.out.2
                  have hlen := setN_len (l := own2) (k := 7 + j') (j := q) 0 (by rw [HS12.out.owns.1]; have := HBJ.out.2; omega)
                  have hkk : (((7 + j' : Nat) : Int) + (q : Int)) = ((7 + j' + q : Nat) : Int) := by omega
                  by_cases hql : q < m'
                  · have hb6 : 7 + j' + q < (setN own2 (7 + j') q 0).length := by rw [hlen, HS12.out.owns.1]; have := HBJ.out.2; omega
                    have hcell := hrow.cell (7 + j' + q) hb6
                    have hfr := hrow.frozen (7 + j' + q)
                    have hb60 : 7 + j' + q < 60 := by have := HBJ.out.2; omega
                    have hlt3 : decide (((7 + j' + q : Nat) : Int) < 7 + (j' : Int) + (m' : Int)) = true := by simp; omega
                    obtain ⟨y, hy⟩ : ∃ y, y = (setN own2 (7 + j') q 0)[7 + j' + q] := ⟨_, rfl⟩
                    rw [← hy] at hcell
                    have hset := hrow.set' (7 + j' + q) 0 0 rfl (setN own2 (7 + j') (q + 1) 0) (setN_step own2 (7 + j') q 0 (by rw [HS12.out.owns.1]; exact hb60))
                    have HSET := Lib.hid hset
                    have HG2 := Lib.hid (only_setCell hgr (p := ⟨go, 7 + j' + q, none⟩) (.inl rfl) (.int .i64 0))
                    rw [hkk]
                    obtain ⟨kq, hkq⟩ : ∃ kq, 7 + j' + q = kq := ⟨_, rfl⟩
                    rw [hkq] at hcell hfr hb60 hlt3 HSET HG2 ⊢
                    clear hrow hgr hex hlen hkk hb6 hy hset
                    go_wp2_with fail
                    go_roundw
                    case rel => exact OwnL.mk _ (q + 1) (by first | (go_num; done) | (go_num; omega)) (by omega) HSET.out HG2.out
                    case measure => simp [intOf]; omega
                  · obtain rfl : q = m' := by omega
                    have hlt3 : decide (((7 + j' + q : Nat) : Int) < 7 + (j' : Int) + (q : Int)) = false := by first | (simp; done) | (simp; omega)
                    obtain ⟨spF, hvF⟩ := owner_far HSP14.out HR14.out HV14.out hgr
                    have HSF := Lib.hid (show Sa w p g c go _ (setN own2 (7 + j') q 0) (setL ls2 j' q false) (some ⟨hb, hoff, none⟩) 0 wr from ⟨HFR.out.2.1, HS12.out.owns.free HBJ.out.2, spF, hrow, (by rw [HNT.out]; exact hvF), (fun e => by cases e), HL14.out.only hgr HS12.out.bo, HS12.out.bg, HS12.out.bo⟩)
                    rw [hkk]
                    obtain ⟨kq, hkq⟩ : ∃ kq, 7 + j' + q = kq := ⟨_, rfl⟩
                    rw [hkq] at hlt3 ⊢
                    clear hrow hgr hex hlen hkk spF hvF hkq
                    go_wp2_with fail
                    go_roundw
                    case rel => exact ApI.mk _ (i + 1) (by go_num) (by omega) (by first | exact HNT.out | exact rfl) (by omega) HSF.out
                    case measure => simp [intOf]; omega
              · have HVA := Lib.hid (show HV w12 w.heap.size (some ⟨hb, hoff + 2, none⟩) (nn - 1) (cb2 - 1) (exL t) by have := HVT12.out; rw [HNL2.out] at this; exact this)
                go_wp2_with fail
                refine HF1.out.mono ?_
                rintro e w13 ⟨rfl, s13, g13⟩
                rw [HFR.out.1] at s13 ⊢
                have hz1 : (some (setL ls2 j' m' false) : Option (List Bool)).isSome = true := rfl
                rw [hz1]
                have s13 : Spc w13 p 7 (setL ls2 j' m' false) g c := s13
                obtain ⟨row13, hv13⟩ := space_far HS12.out.sp HS12.out.row HVA.out g13
                obtain ⟨gcs, hgcs⟩ := own_blk HS12.out.sp.2.2
                have e13 := ext_far HB12.out g13 hgcs (by decide)
                have la13 := HS12.out.la.only g13 HS12.out.bg
                have e0 := e13.cell 0 _ rfl
                have e1 := e13.cell 1 _ rfl
                have HF2 := Lib.hid (spaceFree_any p 7 _ g c (7 + (j' : Int)) m' aB aO w13 s13 (HS.out.later la13) (by decide) (by decide) (by rw [HFR.out.2.1.1]; decide) (by have := HBJ.out.2; omega))
                have HR13 := Lib.hid row13
                have HV13 := Lib.hid hv13
                have HE13 := Lib.hid e13
                have HL13 := Lib.hid la13
                have HSP13 := Lib.hid s13
                clear row13 hv13 hgcs e13 la13 s13 g13 hz1 HF1
                go_wp2_with fail
                refine HF2.out.mono ?_
                rintro e w14 ⟨rfl, s14, g14⟩
                rw [HFR.out.2.2] at s14 ⊢
                have hz2 : (none : Option (List Bool)).isSome = false := rfl
                rw [hz2]
                have s14 : Spc w14 p 7 (setL ls2 j' m' false) g c := s14
                obtain ⟨row14, hv14⟩ := space_far HSP13.out HR13.out HV13.out g14
                obtain ⟨gcs2, hgcs2⟩ := own_blk HSP13.out.2.2
                have e14 := ext_far HE13.out g14 hgcs2 (by decide)
                have la14 := HL13.out.only g14 HS12.out.bg
                have e0 := e14.cell 0 _ rfl
                have e1 := e14.cell 1 _ rfl
                have HR14 := Lib.hid row14
                have HV14 := Lib.hid hv14
                have HE14 := Lib.hid e14
                have HL14 := Lib.hid la14
                have HSP14 := Lib.hid s14
                clear row14 hv14 hgcs2 e14 la14 s14 g14 hz2 HF2
                go_wp2_with fail
                clear e0 e1
                go_loopw [13] (fun kv wy => OwnL go (7 + j') m' own2 0 w14 kv wy) (fun kv _ => (7 + j' + m' - (intOf kv).toNat))
                case atStart => exact OwnL.mk _ 0 (by omega) (Nat.zero_le _) (by rw [setN_zero]; exact HR14.out) (World.grownBy.refl _ _)
                case round =>
                  obtain ⟨q, hq, rfl, hrow, hgr⟩ := hrel
                  have HROW := Lib.hid hrow
                  have HGR := Lib.hid hgr
                  have hex := ext_far HE14.out hgr HR14.out (by decide)
                  have e0 := hex.cell 0 _ rfl
                  have e1 := hex.cell 1 _ rfl
                  have hjb2 : j' + m' ≤ 50 := HBJ.out.2
                  have hlen := setN_len (l := own2) (k := 7 + j') (j := q) 0 (by rw [HS12.out.owns.1]; have := HBJ.out.2; omega)
                  have hkk : (((7 + j' : Nat) : Int) + (q : Int)) = ((7 + j' + q : Nat) : Int) := by omega
                  by_cases hql : q < m'
                  · have hb6 : 7 + j' + q < (setN own2 (7 + j') q 0).length := by rw [hlen, HS12.out.owns.1]; have := HBJ.out.2; omega
                    have hcell := hrow.cell (7 + j' + q) hb6
                    have hfr := hrow.frozen (7 + j' + q)
                    have hb60 : 7 + j' + q < 60 := by have := HBJ.out.2; omega
                    have hlt3 : decide (((7 + j' + q : Nat) : Int) < 7 + (j' : Int) + (m' : Int)) = true := by simp; omega
                    obtain ⟨y, hy⟩ : ∃ y, y = (setN own2 (7 + j') q 0)[7 + j' + q] := ⟨_, rfl⟩
                    rw [← hy] at hcell
                    have hset := hrow.set' (7 + j' + q) 0 0 rfl (setN own2 (7 + j') (q + 1) 0) (setN_step own2 (7 + j') q 0 (by rw [HS12.out.owns.1]; exact hb60))
                    have HSET := Lib.hid hset
                    have HG2 := Lib.hid (only_setCell hgr (p := ⟨go, 7 + j' + q, none⟩) (.inl rfl) (.int .i64 0))
                    rw [hkk]
                    obtain ⟨kq, hkq⟩ : ∃ kq, 7 + j' + q = kq := ⟨_, rfl⟩
                    rw [hkq] at hcell hfr hb60 hlt3 HSET HG2 ⊢
                    clear hrow hgr hex hlen hkk hb6 hy hset
                    go_wp2_with fail
                    go_roundw
                    case rel => exact OwnL.mk _ (q + 1) (by first | (go_num; done) | (go_num; omega)) (by omega) HSET.out HG2.out
                    case measure => simp [intOf]; omega
                  · obtain rfl : q = m' := by omega
                    have hlt3 : decide (((7 + j' + q : Nat) : Int) < 7 + (j' : Int) + (q : Int)) = false := by first | (simp; done) | (simp; omega)
                    obtain ⟨spF, hvF⟩ := owner_far HSP14.out HR14.out HV14.out hgr
                    have HSF := Lib.hid (show Sa w p g c go _ (setN own2 (7 + j') q 0) (setL ls2 j' q false) (some ⟨hb, hoff + 2, none⟩) (cb2 - 1) wr from ⟨HFR.out.2.1, HS12.out.owns.free HBJ.out.2, spF, hrow, (by rw [HNT.out]; exact hvF), (fun e => by cases e), HL14.out.only hgr HS12.out.bo, HS12.out.bg, HS12.out.bo⟩)
                    rw [hkk]
                    obtain ⟨kq, hkq⟩ : ∃ kq, 7 + j' + q = kq := ⟨_, rfl⟩
                    rw [hkq] at hlt3 ⊢
                    clear hrow hgr hex hlen hkk spF hvF hkq
                    go_wp2_with fail
                    go_roundw
                    case rel => exact ApI.mk _ (i + 1) (by go_num) (by omega) (by first | exact HNT.out | exact rfl) (by omega) HSF.out
                    case measure => simp [intOf]; omega
    · obtain rfl : i = n := by omega
      have HSA := Lib.hid sa
      obtain ⟨U, hU⟩ : ∃ U, usedL ls = U := ⟨_, rfl⟩
      have HUS := Lib.hid hU
      have HSUM := Lib.hid (show sumN h = U by rw [← hU]; exact sa.cov.2.2.2.2.symm)
      have hU50 : U ≤ 50 := by rw [← hU]; have := usedL_le ls; rw [sa.cov.1] at this; exact this
      have hn40 : n' ≤ 40 := by omega
      clear sa hU hi
      go_wp2_with fail
      go_loopw [14, 15] (fun uv iv wy => SumI h n' wr uv iv wy) (fun _ iv _ => (n' - (intOf iv).toNat))
      case atStart => exact SumI.mk 0 0 0 rfl (by simp [sumN]) (Nat.zero_le _) rfl
      case round =>
        obtain ⟨q, rfl, rfl, hq, rfl⟩ := hrel
        by_cases hql : q < n'
        · have hqh : q < h.length := by rw [HNL.out]; exact hql
          obtain ⟨hb, hoff, rfl, c0, c1⟩ := HSA.out.hv.get q (by rw [exL_len]; exact hqh)
          rw [exL_get h q hqh] at c1
          have hst : sumN (h.take (q + 1)) = sumN (h.take q) + h[q].2 := by rw [List.take_succ_eq_append_getElem hqh, sumN_snoc]
          have hle := sumN_take h (q + 1)
          rw [HSUM.out] at hle
          obtain ⟨u, hu⟩ : ∃ u, u = sumN (h.take q) := ⟨_, rfl⟩
          obtain ⟨z, hz⟩ : ∃ z, z = h[q].2 := ⟨_, rfl⟩
          rw [← hu, ← hz] at hst
          rw [hst] at hle
          rw [← hu]
          replace c1 : wr.cell? ⟨hb, hoff + q * 2 + 1, none⟩ = some (.int .i64 (z : Int)) := by rw [c1, hz]
          have HST := Lib.hid hst
          have hcb : 1 ≤ ca' ∨ True := .inr trivial
          clear hst hu hz c0 hcb
          go_wp2_with fail
          go_roundw
          case rel => exact SumI.mk _ _ (q + 1) (by go_num) (by rw [HST.out]; go_num) hql rfl
          case measure => simp [intOf]; omega
        · obtain rfl : q = n' := by omega
          have hsu : sumN (h.take q) = U := by rw [List.take_of_length_le (by rw [HNL.out]; exact Nat.le_refl _)]; exact HSUM.out
          rw [hsu]
          have HU := Lib.hid (spaceUsed_any p 7 ls g c wr HSA.out.sp (by rw [HSA.out.cov.1]; decide))
          rw [HUS.out] at HU
          clear hsu
          go_wp2_with fail
          refine HU.out.mono ?_
          rintro e w' ⟨rfl, rfl⟩
          go_wp2_with fail
          have HFI := Lib.hid (show FreI w p g c q HA ca' h (.int .i64 0) w' from FreI.mk 0 0 rfl (Nat.zero_le _) (by rw [List.drop_zero]; exact HSA.out.cov) HSA.out.sp (by have := HSA.out.hv; rw [HNL.out] at this; exact this) HSA.out.la)
          go_loopw [16] (fun iv wy => FreI w p g c q HA ca' h iv wy) (fun iv _ => (q - (intOf iv).toNat))
          case atStart => exact HFI.out
          case round =>
            obtain ⟨r, lr, rfl, hr, hcov, hsp, hhv, hla⟩ := hrel
            have HCOV := Lib.hid hcov
            have HHV := Lib.hid hhv
            have HLA := Lib.hid hla
            have HSPR := Lib.hid hsp
            by_cases hrl : r < q
            · have hrh : r < h.length := by rw [HNL.out]; exact hrl
              obtain ⟨hb, hoff, rfl, c0, c1⟩ := hhv.get r (by rw [exL_len]; exact hrh)
              rw [exL_get h r hrh] at c0 c1
              have hdr := List.drop_eq_getElem_cons hrh
              obtain ⟨⟨j', m'⟩, hx⟩ : ∃ x, x = h[r] := ⟨_, rfl⟩
              rw [← hx] at hdr c0 c1
              rw [hdr] at hcov
              have c0 : wr.cell? ⟨hb, hoff + r * 2, none⟩ = some (.int .i64 (7 + (j' : Int))) := c0
              have c1 : wr.cell? ⟨hb, hoff + r * 2 + 1, none⟩ = some (.int .i64 (m' : Int)) := c1
              have hjb : j' + m' ≤ 50 := (hcov.2.2.2.1 (j', m') (List.mem_cons_self ..)).2
              have HFR := Lib.hid (Cov.free hcov)
              have HF := Lib.hid (spaceFree_any p 7 lr g c (7 + (j' : Int)) m' aB aO wr hsp (HS.out.later hla) (by decide) (by decide) (by rw [hcov.1]; decide) (by omega))
              obtain ⟨gcs, hgcs⟩ := own_blk hsp.2.2
              have HGC := Lib.hid hgcs
              clear hcov hsp hhv hla hdr hx hgcs HCOV
              go_wp2_with fail
              refine HF.out.mono ?_
              rintro e wx ⟨rfl, sx, gx⟩
              rw [HFR.out.1] at sx ⊢
              have hz1 : (some (setL lr j' m' false) : Option (List Bool)).isSome = true := rfl
              rw [hz1]
              have sx : Spc wx p 7 (setL lr j' m' false) g c := sx
              have HSX := Lib.hid sx
              have HHX := Lib.hid (HHV.out.grown gx HGC.out (by decide))
              have HLX := Lib.hid (HLA.out.only gx HSA.out.bg)
              clear sx gx hz1 HF c0 c1
              go_wp2_with fail
              go_roundw
              case rel => exact FreI.mk _ (r + 1) (by go_num) hrl HFR.out.2.1 HSX.out HHX.out HLX.out
              case measure => simp [intOf]; omega
            · obtain rfl : r = q := by omega
              rw [List.drop_of_length_le (by rw [HNL.out]; exact Nat.le_refl _)] at hcov
              have hl0 := hcov.none_
              subst hl0
              have HT := Lib.hid (spaceTake_any p 7 _ g c 50 aB aO wr hsp (HS.out.later hla) (by decide) (by decide) (by decide))
              rw [show fstS (List.replicate 50 false) 50 = some 0 from by decide +kernel] at HT
              clear hcov hsp hhv hla HCOV HHV HSPR
              go_wp2_with fail
              refine HT.out.mono ?_
              intro e wx hx
              obtain ⟨rfl, sx, gx⟩ := hx.yes
              have sx : Spc wx p 7 (List.replicate 50 true) g c := sx
              have L17 := Later.new wx (.cells #[.int .i64 7, .int .i64 50] 30)
              have HLX := Lib.hid ((HLA.out.only gx HSA.out.bg).trans L17)
              have B17 := Blk.new wx #[.int .i64 7, .int .i64 50] 30 wx.heap.size rfl
              have e0 := B17.cell 0 _ rfl
              have HU := Lib.hid (spaceUsed_any p 7 _ g c _ (sx.later L17) (by decide))
              rw [show usedL (List.replicate 50 true) = 50 from by decide +kernel] at HU
              clear hx sx gx L17 B17 HT
              go_wp2_with fail
              refine HU.out.mono ?_
              rintro e w' ⟨rfl, rfl⟩
              go_wp2_with fail
              go_ret
              exact ⟨rfl, HLX.out⟩
end Go.Proofs.YtnmldploafpbdaaDoor
