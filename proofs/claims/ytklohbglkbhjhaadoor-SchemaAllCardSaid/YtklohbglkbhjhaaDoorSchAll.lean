/- The walk of SchemaAll. (tools/gen_schall.py) -/
import Derived.Test.YtklohbglkbhjhaaDoorLight
import Derived.Test.YtklohbglkbhjhaaDoorStayA
import Derived.Test.YtklohbglkbhjhaaDoorPlayR
import Derived.Test.YtklohbglkbhjhaaDoorRefSch
import Derived.Deep.CutBlock
import Derived.Great.BuildSlice
namespace Go.Proofs.YtklohbglkbhjhaaDoor
open Go.RowKit
set_option linter.unusedVariables false

/-- Four things: the first and the last, and the two between; or by turns. -/
def byE {α : Type} (a b : α) (k : Nat) : α := if k = 0 ∨ k = 3 then a else b
def byT {α : Type} (a b : α) (k : Nat) : α := if k = 0 ∨ k = 2 then a else b
def abS (V : Option Addr) (n c : Nat) (l : Int) : List Value := [.slice V n c, .int .i64 l]
def abL (m : Lay4) (E : Option Addr) (n c : Nat) : List Value := [.int .i64 m.sb, .int .i64 m.pb, .int .i64 m.parts, .slice E n c]
theorem info_scb : (Tryd.prog.info? 24).map (fun i => (i.zero, i.size, i.bytes)) = some (some (.agg #[.slice none 0 0, .int .i64 0]), 2, 32) := by kernel_rfl
theorem info_lab : (Tryd.prog.info? 27).map (fun i => (i.zero, i.size, i.bytes)) = some (some (.agg #[.int .i64 0, .int .i64 0, .int .i64 0, .slice none 0 0]), 4, 48) := by kernel_rfl
theorem make_sch4 (w : World) (V V2 : Option Addr) (n c n2 c2 : Nat) (l l2 : Int) : (Instr.buildSlice 42 4 #[(0, .agg (abS V n c l).toArray), (1, .agg (abS V2 n2 c2 l2).toArray), (2, .agg (abS V2 n2 c2 l2).toArray), (3, .agg (abS V n c l).toArray)]).run Tryd.prog w = .ok (.slice (some ⟨w.heap.size, 0, none⟩) 4 4) (w.alloc (.cells (abS V n c l ++ (abS V2 n2 c2 l2 ++ (abS V2 n2 c2 l2 ++ abS V n c l))).toArray 24)) := by
 obtain ⟨ich, hich, hzch, hsch, _⟩ := info_parts info_scb
 exact run_buildSlice w 42 24 4 _ (abS V n c l ++ (abS V2 n2 c2 l2 ++ (abS V2 n2 c2 l2 ++ abS V n c l))).toArray ich _ Tryd.underlying42 hich hzch (by rw [hsch]; decide) (by rw [hsch]; decide) (by rw [hsch]; kernel_rfl)
theorem make_lay4 (w : World) (m m2 : Lay4) (V V2 : Option Addr) (n c n2 c2 : Nat) : (Instr.buildSlice 43 4 #[(0, .agg (abL m V n c).toArray), (1, .agg (abL m2 V2 n2 c2).toArray), (2, .agg (abL m2 V2 n2 c2).toArray), (3, .agg (abL m V n c).toArray)]).run Tryd.prog w = .ok (.slice (some ⟨w.heap.size, 0, none⟩) 4 4) (w.alloc (.cells (abL m V n c ++ (abL m2 V2 n2 c2 ++ (abL m2 V2 n2 c2 ++ abL m V n c))).toArray 27)) := by
 obtain ⟨ich, hich, hzch, hsch, _⟩ := info_parts info_lab
 exact run_buildSlice w 43 27 4 _ (abL m V n c ++ (abL m2 V2 n2 c2 ++ (abL m2 V2 n2 c2 ++ abL m V n c))).toArray ich _ Tryd.underlying43 hich hzch (by rw [hsch]; decide) (by rw [hsch]; decide) (by rw [hsch]; kernel_rfl)
theorem make_chg4 (w : World) (a b : Chg) : (Instr.buildSlice 44 4 #[(0, .agg (cvC a).toArray), (1, .agg (cvC b).toArray), (2, .agg (cvC a).toArray), (3, .agg (cvC b).toArray)]).run Tryd.prog w = .ok (.slice (some ⟨w.heap.size, 0, none⟩) 4 4) (w.alloc (.cells (cvC a ++ (cvC b ++ (cvC a ++ cvC b))).toArray 31)) := by
 obtain ⟨ich, hich, hzch, hsch, _⟩ := info_parts info_chb
 exact run_buildSlice w 44 31 4 _ (cvC a ++ (cvC b ++ (cvC a ++ cvC b))).toArray ich _ Tryd.underlying44 hich hzch (by rw [hsch]; decide) (by rw [hsch]; decide) (by rw [hsch]; kernel_rfl)
theorem exec_four (ev : Operand → Value) (o : Oper) (T : TypeId) (t1 t2 t3 t4 : Operand) (w : World) (ho : o.op = .buildSlice T 4 #[(0, t1), (1, t2), (2, t3), (3, t4)]) (v1 v2 v3 v4 r : Value) (w' : World) (h1 : ev t1 = v1) (h2 : ev t2 = v2) (h3 : ev t3 = v3) (h4 : ev t4 = v4)
  (hm : (Instr.buildSlice T 4 #[(0, v1), (1, v2), (2, v3), (3, v4)]).run Tryd.prog w = .ok r w') :
  (execOp ev o).run Tryd.prog w = .ok (.value r) w' := by
 unfold execOp
 have e : (#[((0 : Nat), t1), (1, t2), (2, t3), (3, t4)].map fun (i, x) => (i, ev x)) = #[(0, v1), (1, v2), (2, v3), (3, v4)] := by simp [h1, h2, h3, h4]
 simp only [ho, Sem.run_bind, e, hm, Result.andThen_ok, Sem.run_pure]
theorem wp_exec {o : Oper} {a : Act} {w w' : World} {v : Value} {K : Act → World → Prop} {Q : Exit → Act → World → Prop} (h : (execOp a.eval o).run Tryd.prog w = .ok (.value v) w') (hk : K (a.put o.dst v) w') : o.wp Tryd.prog a w K Q := by
 simp only [Oper.wp, h, Oper.upon]
 exact hk
theorem light_now {xs : List Col3} {en : Nat} (h : LightP xs en) : xs.length ≤ 9 ∧ en ≤ 9 ∧ ∀ x ∈ xs, x.2.1.size ≤ 9223372036854775807 := ⟨h.2.1, h.2.2, fun x hx => Nat.le_trans (h.1 x hx) (by decide)⟩
theorem fit_made {cols : List Col3} {row : List Val3} (hl : row.length = cols.length) (ht : ∀ x ∈ cols, 1 ≤ x.2.2 ∧ x.2.2 ≤ 4) (h : FitR cols row) : FitsL cols row := by
 refine ⟨hl, fun i h1 h2 => ?_⟩
 have ht1 := ht _ (List.getElem_mem h1)
 have hf := (h i cols[i] row[i] (List.getElem?_eq_getElem h1) (List.getElem?_eq_getElem h2)).1
 generalize cols[i].2.2 = t at ht1 hf
 generalize row[i] = v at hf
 rcases hf with rfl | ⟨h3, h4, _⟩
 ·exact ⟨ht1, .inl rfl, by show MayV 0 0 0; unfold MayV; omega⟩
 ·refine ⟨ht1, .inr ?_, h4⟩
  rw [h3]
  unfold tyOf
  obtain rfl | rfl | rfl | rfl : t = 1 ∨ t = 2 ∨ t = 3 ∨ t = 4 := by omega
  all_goals rfl
noncomputable def tp (P : Prop) : Bool := @decide P (Classical.propDecidable P)
theorem TellsP.tp {P : Prop} {w w' : World} {e : Ending} (h : TellsP P w e w') : e = .returned (.bool (tp P)) ∧ Later w w' := by
 obtain ⟨r, hr, rfl, l⟩ := h
 refine ⟨?_, l⟩
 have : r = Proofs.YtklohbglkbhjhaaDoor.tp P := by
  unfold Proofs.YtklohbglkbhjhaaDoor.tp
  by_cases hp : P
  ·simp [hr.2 hp, hp]
  ·have h2 : ¬ r = true := fun h => hp (hr.1 h)
   simp [hp, h2]
 rw [this]
/-- What the rounds read. -/
theorem rin_four {w : World} {g1 g2 g3 : Nat} {V V2 E E2 : Option Addr} {vc vc2 ec ec2 : Nat} {s t : St3} {c d : Chg}
  (h1 : Blk w g1 (abS V s.1.length vc s.2.1 ++ (abS V2 t.1.length vc2 t.2.1 ++ (abS V2 t.1.length vc2 t.2.1 ++ abS V s.1.length vc s.2.1))).toArray 24)
  (h2 : Blk w g2 (abL s.2.2 E s.2.2.enc.length ec ++ (abL t.2.2 E2 t.2.2.enc.length ec2 ++ (abL t.2.2 E2 t.2.2.enc.length ec2 ++ abL s.2.2 E s.2.2.enc.length ec))).toArray 27)
  (h3 : Blk w g3 (cvC c ++ (cvC d ++ (cvC c ++ cvC d))).toArray 31)
  (hv : Has w V (fc s.1)) (he : Has w E (ein s.2.2.enc)) (hv2 : Has w V2 (fc t.1)) (he2 : Has w E2 (ein t.2.2.enc))
  (ln : s.1.length ≤ 9 ∧ s.2.2.enc.length ≤ 9) (ln2 : t.1.length ≤ 9 ∧ t.2.2.enc.length ≤ 9) (nm : ∀ x ∈ s.1, x.2.1.size ≤ 9223372036854775807) (nm2 : ∀ x ∈ t.1, x.2.1.size ≤ 9223372036854775807)
  (cn : c.name.size ≤ 9223372036854775807) (cn2 : d.name.size ≤ 9223372036854775807) (vn : V = none → vc = 0) (en : E = none → ec = 0) (vn2 : V2 = none → vc2 = 0) (en2 : E2 = none → ec2 = 0) :
  ∀ k, k < 4 → RIn w g1 g2 g3 k (byE V V2 k) (byE vc vc2 k) (byE E E2 k) (byE ec ec2 k) (byE s t k) (byT c d k) := by
 intro k hk
 obtain rfl | rfl | rfl | rfl : k = 0 ∨ k = 1 ∨ k = 2 ∨ k = 3 := by omega
 ·exact ⟨h1.cell 0 _ rfl, h1.cell 1 _ rfl, h2.cell 0 _ rfl, h2.cell 1 _ rfl, h2.cell 2 _ rfl, h2.cell 3 _ rfl, h3.cell 0 _ rfl, h3.cell 1 _ rfl, h3.cell 2 _ rfl, h3.cell 3 _ rfl, h3.cell 4 _ rfl, h3.cell 5 _ rfl, h3.cell 6 _ rfl, h3.cell 7 _ rfl, h3.cell 8 _ rfl, hv, he, ln, nm, cn, vn, en⟩
 ·exact ⟨h1.cell 2 _ rfl, h1.cell 3 _ rfl, h2.cell 4 _ rfl, h2.cell 5 _ rfl, h2.cell 6 _ rfl, h2.cell 7 _ rfl, h3.cell 9 _ rfl, h3.cell 10 _ rfl, h3.cell 11 _ rfl, h3.cell 12 _ rfl, h3.cell 13 _ rfl, h3.cell 14 _ rfl, h3.cell 15 _ rfl, h3.cell 16 _ rfl, h3.cell 17 _ rfl, hv2, he2, ln2, nm2, cn2, vn2, en2⟩
 ·exact ⟨h1.cell 4 _ rfl, h1.cell 5 _ rfl, h2.cell 8 _ rfl, h2.cell 9 _ rfl, h2.cell 10 _ rfl, h2.cell 11 _ rfl, h3.cell 18 _ rfl, h3.cell 19 _ rfl, h3.cell 20 _ rfl, h3.cell 21 _ rfl, h3.cell 22 _ rfl, h3.cell 23 _ rfl, h3.cell 24 _ rfl, h3.cell 25 _ rfl, h3.cell 26 _ rfl, hv2, he2, ln2, nm2, cn, vn2, en2⟩
 ·exact ⟨h1.cell 6 _ rfl, h1.cell 7 _ rfl, h2.cell 12 _ rfl, h2.cell 13 _ rfl, h2.cell 14 _ rfl, h2.cell 15 _ rfl, h3.cell 27 _ rfl, h3.cell 28 _ rfl, h3.cell 29 _ rfl, h3.cell 30 _ rfl, h3.cell 31 _ rfl, h3.cell 32 _ rfl, h3.cell 33 _ rfl, h3.cell 34 _ rfl, h3.cell 35 _ rfl, hv, he, ln, nm, cn2, vn, en⟩
set_option maxRecDepth 100000 in
set_option maxHeartbeats 8000000 in
theorem schemaAll_walk (V E R A : Option Addr) (vn vc en ec rn rc n cA : Nat) (last sb pb parts : Int) (xs : List Col3) (es : List Int) (ch : Chg) (row : List Val3) (nm : ByteArray) (id : Int) (bs : List Nat) (w : World) (f : Int → Addr) (hs : S15 w f) (h3 : S3 w)
  (hvn : vn = xs.length) (hvm : vn ≤ maxLen) (hV : Has w V (fc xs)) (hen : en = es.length) (hE : Has w E (ein es)) (hvz : V = none → vc = 0) (hez : E = none → ec = 0)
  (hrn : rn = row.length) (hR : Has w R (fl row)) (hb : bs.length = n) (hr : Has w A (ints .u8 bs)) (h256 : ∀ x ∈ bs, x < 256) (hcn : ch.name.size ≤ 9223372036854775807) :
  Calls Tryd.prog 3 #[.agg #[.slice V vn vc, .int .i64 last], .agg #[.int .i64 sb, .int .i64 pb, .int .i64 parts, .slice E en ec], .agg (cvC ch).toArray, .slice R rn rc, .string nm, .int .i64 id, .slice A n cA] w fun e w' => e = .returned (.bool true) ∧ Later w w' := by
 obtain ⟨q, hq⟩ : ∃ x, w.heap.size = x := ⟨_, rfl⟩
 obtain ⟨w1, hw1⟩ : ∃ x : World, ((w.alloc (.cells #[.slice V vn vc, .int .i64 last] 24)).alloc (.cells #[.int .i64 sb, .int .i64 pb, .int .i64 parts, .slice E en ec] 27)).alloc (.cells (cvC ch).toArray 31) = x := ⟨_, rfl⟩
 have l1 : Later w w1 := hw1 ▸ ((Later.new w _).alloc _).alloc _
 have HS0 := Lib.hid (show Blk w1 q #[.slice V vn vc, .int .i64 last] 24 from hw1 ▸ ((Blk.new w _ _ _ hq.symm).later (Later.new _ _)).later (Later.new _ _))
 have HL0 := Lib.hid (show Blk w1 (q + 1) #[.int .i64 sb, .int .i64 pb, .int .i64 parts, .slice E en ec] 27 from hw1 ▸ (Blk.new _ _ _ _ (by simp; omega)).later (Later.new _ _))
 have HC0 := Lib.hid (show Blk w1 (q + 2) (cvC ch).toArray 31 from hw1 ▸ Blk.new _ _ _ _ (by simp; omega))
 have HB := Lib.hid (begun15_any w1 f (hs.later l1) (h3.later l1))
 have HL := Lib.hid l1
 have HW := Lib.hid hw1
 have HQ := Lib.hid hq
 have HS := Lib.hid (hs.later l1)
 have H3 := Lib.hid (h3.later l1)
 have HV := Lib.hid (hV.later l1)
 have HE := Lib.hid (hE.later l1)
 have HR := Lib.hid (hR.later l1)
 have HA := Lib.hid (hr.later l1)
 have HBS := Lib.hid (show bs.length = n ∧ ∀ x ∈ bs, x < 256 from ⟨hb, h256⟩)
 have HLT := Lib.hid True.intro
 have HVN := Lib.hid (show vn = xs.length ∧ vn ≤ maxLen from ⟨hvn, hvm⟩)
 have HEN := Lib.hid hen
 have HRN := Lib.hid hrn
 clear hs h3 hV hE hR hr hb h256 l1 hw1 hq hvn hvm hen hrn
 unfold cvC at HW HC0 ⊢
 go_enter Tryd.func3, Tryd.ntmps3
 go_wp2_with fail
 rw [HW.out]
 try simp only [HQ.out]
 clear HW HQ
 refine HB.out.mono ?_
 rintro e w2 ⟨rfl, l2⟩
 clear HB
 have a0 := (HS0.out.later l2).cell 0 _ rfl
 have a1 := (HS0.out.later l2).cell 1 _ rfl
 have b0 := (HL0.out.later l2).cell 0 _ rfl
 have b1 := (HL0.out.later l2).cell 1 _ rfl
 have b2 := (HL0.out.later l2).cell 2 _ rfl
 have b3 := (HL0.out.later l2).cell 3 _ rfl
 have HL2 := Lib.hid l2
 have HLI := Lib.hid (light_any V E vn vc en ec last sb pb parts xs w2 HVN.out.1 HVN.out.2 (HV.out.later l2))
 clear l2
 go_wp2_with fail
 refine HLI.out.mono ?_
 rintro e w3 ⟨r0, hr0, rfl, l3⟩
 have HL3 := Lib.hid (HL2.out.trans l3)
 clear a0 a1 b0 b1 b2 b3 HLI l3 HLT HL2
 rcases r0 with _ | _
 ·have c2 := (HC0.out.later HL3.out).cell 2 _ rfl
  have c6 := (HC0.out.later HL3.out).cell 6 _ rfl
  go_wp2_with fail
  go_ret
  exact ⟨rfl, HL.out.trans HL3.out⟩
 have HLI := Lib.hid (light_now (hr0.1 rfl))
 clear hr0
 by_cases hr9 : (9 : Int) < (rn : Int)
 ·have c2 := (HC0.out.later HL3.out).cell 2 _ rfl
  have c6 := (HC0.out.later HL3.out).cell 6 _ rfl
  go_wp2_with fail
  go_ret
  exact ⟨rfl, HL.out.trans HL3.out⟩
 by_cases hn3 : (30 : Int) < (nm.size : Int)
 ·have c2 := (HC0.out.later HL3.out).cell 2 _ rfl
  have c6 := (HC0.out.later HL3.out).cell 6 _ rfl
  go_wp2_with fail
  go_ret
  exact ⟨rfl, HL.out.trans HL3.out⟩
 by_cases hsm : (60 : Int) < wrap64 ((ch.name.size : Int) + (ch.val.2.2.size : Int))
 ·have c2 := (HC0.out.later HL3.out).cell 2 _ rfl
  have c6 := (HC0.out.later HL3.out).cell 6 _ rfl
  go_wp2_with fail
  go_ret
  exact ⟨rfl, HL.out.trans HL3.out⟩
 by_cases hn6 : (60 : Int) < (n : Int)
 ·have c2 := (HC0.out.later HL3.out).cell 2 _ rfl
  have c6 := (HC0.out.later HL3.out).cell 6 _ rfl
  go_wp2_with fail
  go_ret
  exact ⟨rfl, HL.out.trans HL3.out⟩
 have c2 := (HC0.out.later HL3.out).cell 2 _ rfl
 have c6 := (HC0.out.later HL3.out).cell 6 _ rfl
 have HSZ := Lib.hid (show rn ≤ 9 ∧ nm.size ≤ 30 ∧ n ≤ 60 from ⟨by omega, by omega, by omega⟩)
 have hc : PkC n bs := ⟨by omega, HBS.out.1, HBS.out.2⟩
 have HCC := Lib.hid hc
 clear hc
 obtain ⟨g, hg⟩ : ∃ g, w3.heap.size = g := ⟨_, rfl⟩
 go_wp2_with (go_at_call 11; refine (made_any A n cA _).mono ?_; rintro e w4 ⟨rfl, hw4⟩)
 clear c2 c6 hr9 hn3 hsm hn6
 have l4 : Later w3 w4 := hw4 ▸ Later.new _ _
 have HPK := Lib.hid (show Pks w4 g A n cA bs from ⟨⟨0, Nat.zero_le _, hw4 ▸ Blk.new _ _ _ g hg.symm⟩, by
  have h := HA.out.later HL3.out
  rcases h with h | ⟨b, off, hA, hb, hcc⟩
  ·exact .inl h
  ·exact .inr ⟨b, off, hA, by omega, fun k v hv => l4.cell (hcc k v hv)⟩⟩)
 have HL4 := Lib.hid (HL3.out.trans l4)
 have HG0 := Lib.hid (show q + 3 ≤ g from by have h := (HC0.out.later HL3.out).lt; omega)
 have HGG := Lib.hid hg
 have HL34 := Lib.hid l4
 clear l4 hw4 hg
 refine (schema_any g A n cA bs w4 HCC.out HPK.out).mono ?_
 rintro e w5 ⟨t0, m, ts, V2, vc2, es2, E2, ec2, d0, d1, d2, rfl, ⟨hm, htl, ht0, hts⟩, ⟨hes, het, hlay⟩, rs⟩
 have HF5 := Lib.hid rs.far
 have HPK := Lib.hid rs.pk
 have HL5 := Lib.hid (show Later w1 w5 from HL3.out.trans (rs.far.out HGG.out.symm HL34.out))
 obtain ⟨gv, rfl⟩ := own_some rs.oV (by omega)
 obtain ⟨ge, rfl⟩ := own_some rs.oE (by omega)
 have hcl : (playCols t0 m ts).length = m + 2 := by rw [playCols_len, htl]
 have HMAY := Lib.hid (play_may t0 m ts hm htl ht0 hts).1
 have HLAY := Lib.hid (play_lay t0 m ts hm htl d0 d1 d2 es2 hes het hlay)
 have HNE := Lib.hid (show gv ≠ g ∧ ge ≠ g from by
  obtain ⟨_, h1⟩ := own_typ rs.oV
  obtain ⟨_, h2⟩ := own_typ rs.oE
  obtain ⟨k, _, hk⟩ := HPK.out.pk
  exact ⟨ne_typ h1 hk (by decide), ne_typ h2 hk (by decide)⟩)
 have HV5 := Lib.hid (Has.ownG rs.oV)
 have HE5 := Lib.hid (Has.ownG rs.oE)
 have HG5 := Lib.hid (show w1.heap.size ≤ g from by have h := HL3.out.size; rw [← HGG.out]; exact h)
 clear rs HF5 HGG HL34 HL3 HL4 hts het hlay ht0 htl
 generalize playCols t0 m ts = cols at hcl HMAY HLAY HV5
 obtain ⟨n2, hn2⟩ : ∃ x, m + 2 = x := ⟨_, rfl⟩
 rw [hn2] at hcl hes HMAY ⊢
 have HN2 := Lib.hid (show cols.length = n2 ∧ es2.length = n2 ∧ 1 ≤ n2 ∧ n2 ≤ 4 from ⟨hcl, hes, by omega, by omega⟩)
 clear hn2 hm hcl hes
 obtain ⟨gs, hgs⟩ : ∃ x, w5.heap.size = x := ⟨_, rfl⟩
 obtain ⟨w6, hw6⟩ : ∃ x : World, (w5.alloc (.cells #[.slice (some ⟨gv, 0, none⟩) n2 vc2, .int .i64 (n2 : Int)] 24)).alloc (.cells #[.int .i64 d0, .int .i64 d1, .int .i64 d2, .slice (some ⟨ge, 0, none⟩) n2 ec2] 27) = x := ⟨_, rfl⟩
 have l6 : Later w5 w6 := hw6 ▸ (Later.new _ _).alloc _
 have HBT := Lib.hid (show Blk w6 gs #[.slice (some ⟨gv, 0, none⟩) n2 vc2, .int .i64 (n2 : Int)] 24 from hw6 ▸ (Blk.new w5 _ _ gs hgs.symm).later (Later.new _ _))
 have HBM := Lib.hid (show Blk w6 (gs + 1) #[.int .i64 d0, .int .i64 d1, .int .i64 d2, .slice (some ⟨ge, 0, none⟩) n2 ec2] 27 from hw6 ▸ Blk.new _ _ _ _ (by simp; omega))
 have HPK6 := Lib.hid (HPK.out.later l6)
 have HL6 := Lib.hid (HL5.out.trans l6)
 have HV6 := Lib.hid (HV5.out.later l6)
 have HE6 := Lib.hid (HE5.out.later l6)
 have HW6 := Lib.hid hw6
 clear hw6 l6 HPK HV5 HE5 HL5
 go_upto_region 7 with fail
 rw [HW6.out]
 clear HW6
 have HGS := Lib.hid (show gs ≠ g ∧ gs + 1 ≠ g from by
  obtain ⟨k, _, hk⟩ := HPK6.out.pk
  exact ⟨ne_typ HBT.out hk (by decide), ne_typ HBM.out hk (by decide)⟩)
 have HCH := Lib.hid (change_play g A n cA bs (some ⟨gv, 0, none⟩) n2 vc2 (n2 : Int) cols w6 HCC.out HPK6.out HN2.out.1.symm (by have := HN2.out; omega) (HasX.mk4 HV6.out HNE.out.1))
 have s0 := HBT.out.cell 0 _ rfl
 have s1 := HBT.out.cell 1 _ rfl
 clear hgs
 go_wp2_with fail
 refine HCH.out.mono ?_
 rintro e w7 ⟨dh, rfl, hdn, hp7, hf7⟩
 have HDN := Lib.hid hdn
 have HL7 := Lib.hid (far_later HL6.out hf7 HG5.out)
 have HBT7 := Lib.hid (hf7.blk HBT.out HGS.out.1)
 have HBM7 := Lib.hid (hf7.blk HBM.out HGS.out.2)
 have HV7 := Lib.hid (Has.far HV6.out hf7 HNE.out.1)
 have HE7 := Lib.hid (Has.far HE6.out hf7 HNE.out.2)
 have HPK7 := Lib.hid hp7
 clear HCH hdn hp7 hf7 s0 s1 HPK6 HL6 HBT HBM HV6 HE6
 obtain ⟨gd, hgd⟩ : ∃ x, w7.heap.size = x := ⟨_, rfl⟩
 obtain ⟨w8, hw8⟩ : ∃ x, w7.alloc (.cells (cvC dh).toArray 31) = x := ⟨_, rfl⟩
 have l8 : Later w7 w8 := hw8 ▸ Later.new _ _
 have HD8 := Lib.hid (show Blk w8 gd (cvC dh).toArray 31 from hw8 ▸ Blk.new _ _ _ _ hgd.symm)
 have HL8 := Lib.hid (HL7.out.trans l8)
 have HBT8 := Lib.hid (HBT7.out.later l8)
 have HBM8 := Lib.hid (HBM7.out.later l8)
 have HV8 := Lib.hid (HV7.out.later l8)
 have HE8 := Lib.hid (HE7.out.later l8)
 have HPK8 := Lib.hid (HPK7.out.later l8)
 have HW8 := Lib.hid hw8
 clear hw8 l8 HPK7 HL7 HBT7 HBM7 HV7 HE7
 unfold cvP
 unfold cvC at HW8
 go_upto_region 8 with fail
 rw [HW8.out]
 clear HW8 hgd
 have S8 := Lib.hid (HS0.out.later HL8.out)
 have L8 := Lib.hid (HL0.out.later HL8.out)
 have C8 := Lib.hid (HC0.out.later HL8.out)
 go_cut [19, 20, 21] from 79 to 94 (fun p1 p2 p3 wx => ∃ g1 g2 g3, p1 = .slice (some ⟨g1, 0, none⟩) 4 4 ∧ p2 = .slice (some ⟨g2, 0, none⟩) 4 4 ∧ p3 = .slice (some ⟨g3, 0, none⟩) 4 4 ∧ Blk wx g1 (abS V vn vc last ++ (abS (some ⟨gv, 0, none⟩) n2 vc2 (n2 : Int) ++ (abS (some ⟨gv, 0, none⟩) n2 vc2 (n2 : Int) ++ abS V vn vc last))).toArray 24 ∧ Blk wx g2 (abL ⟨sb, pb, parts, es⟩ E en ec ++ (abL ⟨d0, d1, d2, es2⟩ (some ⟨ge, 0, none⟩) n2 ec2 ++ (abL ⟨d0, d1, d2, es2⟩ (some ⟨ge, 0, none⟩) n2 ec2 ++ abL ⟨sb, pb, parts, es⟩ E en ec))).toArray 27 ∧ Blk wx g3 (cvC ch ++ (cvC dh ++ (cvC ch ++ cvC dh))).toArray 31 ∧ Later w8 wx)
 case first => as_aux_lemma =>
  refine wp_region_K (S := fun W : World => Later w8 W) (R := Later) (fun _ => Later.refl _) (by kernel_rfl) ?_
  have hS : (fun W : World => Later w8 W) w8.drew := (Later.refl w8).drew
  refine wpAnyK_take Later.refl (fun _ _ _ h k => h.trans k) (fun _ _ h k => h.trans k) (i := 0) (oi := { dst := some 79, op := _, type := _, pos := _, after := _, guard := _ }) (v := ?_) rfl (by kernel_rfl) (by kernel_rfl) (by kernel_rfl) (fun _ _ _ h => h) (Or.inl (Or.inl ⟨by rfl, ?_⟩)) hS ?_
  rotate_left
  focus ((intro w hSw; (try dsimp only at hSw); have q0 := (Blk.later S8.out hSw).cell 0 _ rfl; have q1 := (Blk.later S8.out hSw).cell 1 _ rfl; go_simp); (try with_reducible rfl))
  intro wq hwq
  replace hS := hS.trans hwq
  (try simp only [Act.put, List.setIfInBounds_toArray, List.set_cons_zero, List.set_cons_succ])
  clear hwq
  refine wpAnyK_take Later.refl (fun _ _ _ h k => h.trans k) (fun _ _ h k => h.trans k) (i := 1) (oi := { dst := some 80, op := _, type := _, pos := _, after := _, guard := _ }) (v := ?_) rfl (by kernel_rfl) (by kernel_rfl) (by kernel_rfl) (fun _ _ _ h => h) (Or.inl (Or.inl ⟨by rfl, ?_⟩)) hS ?_
  rotate_left
  focus ((intro w hSw; (try dsimp only at hSw); have q0 := (Blk.later HBT8.out hSw).cell 0 _ rfl; have q1 := (Blk.later HBT8.out hSw).cell 1 _ rfl; go_simp); (try with_reducible rfl))
  intro wq hwq
  replace hS := hS.trans hwq
  (try simp only [Act.put, List.setIfInBounds_toArray, List.set_cons_zero, List.set_cons_succ])
  clear hwq
  refine wpAnyK_take Later.refl (fun _ _ _ h k => h.trans k) (fun _ _ h k => h.trans k) (i := 2) (oi := { dst := some 81, op := _, type := _, pos := _, after := _, guard := _ }) (v := ?_) rfl (by kernel_rfl) (by kernel_rfl) (by kernel_rfl) (fun _ _ _ h => h) (Or.inl (Or.inl ⟨by rfl, ?_⟩)) hS ?_
  rotate_left
  focus ((intro w hSw; (try dsimp only at hSw); have q0 := (Blk.later HBT8.out hSw).cell 0 _ rfl; have q1 := (Blk.later HBT8.out hSw).cell 1 _ rfl; go_simp); (try with_reducible rfl))
  intro wq hwq
  replace hS := hS.trans hwq
  (try simp only [Act.put, List.setIfInBounds_toArray, List.set_cons_zero, List.set_cons_succ])
  clear hwq
  refine wpAnyK_take Later.refl (fun _ _ _ h k => h.trans k) (fun _ _ h k => h.trans k) (i := 3) (oi := { dst := some 82, op := _, type := _, pos := _, after := _, guard := _ }) (v := ?_) rfl (by kernel_rfl) (by kernel_rfl) (by kernel_rfl) (fun _ _ _ h => h) (Or.inl (Or.inl ⟨by rfl, ?_⟩)) hS ?_
  rotate_left
  focus ((intro w hSw; (try dsimp only at hSw); have q0 := (Blk.later S8.out hSw).cell 0 _ rfl; have q1 := (Blk.later S8.out hSw).cell 1 _ rfl; go_simp); (try with_reducible rfl))
  intro wq hwq
  replace hS := hS.trans hwq
  (try simp only [Act.put, List.setIfInBounds_toArray, List.set_cons_zero, List.set_cons_succ])
  clear hwq
  refine wpAnyK_take Later.refl (fun _ _ _ h k => h.trans k) (fun _ _ h k => h.trans k) (i := 5) (oi := { dst := some 84, op := _, type := _, pos := _, after := _, guard := _ }) (v := ?_) rfl (by kernel_rfl) (by kernel_rfl) (by kernel_rfl) (fun _ _ _ h => h) (Or.inl (Or.inl ⟨by rfl, ?_⟩)) hS ?_
  rotate_left
  focus ((intro w hSw; (try dsimp only at hSw); have q0 := (Blk.later L8.out hSw).cell 0 _ rfl; have q1 := (Blk.later L8.out hSw).cell 1 _ rfl; have q2 := (Blk.later L8.out hSw).cell 2 _ rfl; have q3 := (Blk.later L8.out hSw).cell 3 _ rfl; go_simp); (try with_reducible rfl))
  intro wq hwq
  replace hS := hS.trans hwq
  (try simp only [Act.put, List.setIfInBounds_toArray, List.set_cons_zero, List.set_cons_succ])
  clear hwq
  refine wpAnyK_take Later.refl (fun _ _ _ h k => h.trans k) (fun _ _ h k => h.trans k) (i := 6) (oi := { dst := some 85, op := _, type := _, pos := _, after := _, guard := _ }) (v := ?_) rfl (by kernel_rfl) (by kernel_rfl) (by kernel_rfl) (fun _ _ _ h => h) (Or.inl (Or.inl ⟨by rfl, ?_⟩)) hS ?_
  rotate_left
  focus ((intro w hSw; (try dsimp only at hSw); have q0 := (Blk.later HBM8.out hSw).cell 0 _ rfl; have q1 := (Blk.later HBM8.out hSw).cell 1 _ rfl; have q2 := (Blk.later HBM8.out hSw).cell 2 _ rfl; have q3 := (Blk.later HBM8.out hSw).cell 3 _ rfl; go_simp); (try with_reducible rfl))
  intro wq hwq
  replace hS := hS.trans hwq
  (try simp only [Act.put, List.setIfInBounds_toArray, List.set_cons_zero, List.set_cons_succ])
  clear hwq
  refine wpAnyK_take Later.refl (fun _ _ _ h k => h.trans k) (fun _ _ h k => h.trans k) (i := 7) (oi := { dst := some 86, op := _, type := _, pos := _, after := _, guard := _ }) (v := ?_) rfl (by kernel_rfl) (by kernel_rfl) (by kernel_rfl) (fun _ _ _ h => h) (Or.inl (Or.inl ⟨by rfl, ?_⟩)) hS ?_
  rotate_left
  focus ((intro w hSw; (try dsimp only at hSw); have q0 := (Blk.later HBM8.out hSw).cell 0 _ rfl; have q1 := (Blk.later HBM8.out hSw).cell 1 _ rfl; have q2 := (Blk.later HBM8.out hSw).cell 2 _ rfl; have q3 := (Blk.later HBM8.out hSw).cell 3 _ rfl; go_simp); (try with_reducible rfl))
  intro wq hwq
  replace hS := hS.trans hwq
  (try simp only [Act.put, List.setIfInBounds_toArray, List.set_cons_zero, List.set_cons_succ])
  clear hwq
  refine wpAnyK_take Later.refl (fun _ _ _ h k => h.trans k) (fun _ _ h k => h.trans k) (i := 8) (oi := { dst := some 87, op := _, type := _, pos := _, after := _, guard := _ }) (v := ?_) rfl (by kernel_rfl) (by kernel_rfl) (by kernel_rfl) (fun _ _ _ h => h) (Or.inl (Or.inl ⟨by rfl, ?_⟩)) hS ?_
  rotate_left
  focus ((intro w hSw; (try dsimp only at hSw); have q0 := (Blk.later L8.out hSw).cell 0 _ rfl; have q1 := (Blk.later L8.out hSw).cell 1 _ rfl; have q2 := (Blk.later L8.out hSw).cell 2 _ rfl; have q3 := (Blk.later L8.out hSw).cell 3 _ rfl; go_simp); (try with_reducible rfl))
  intro wq hwq
  replace hS := hS.trans hwq
  (try simp only [Act.put, List.setIfInBounds_toArray, List.set_cons_zero, List.set_cons_succ])
  clear hwq
  refine wpAnyK_take Later.refl (fun _ _ _ h k => h.trans k) (fun _ _ h k => h.trans k) (i := 10) (oi := { dst := some 89, op := _, type := _, pos := _, after := _, guard := _ }) (v := ?_) rfl (by kernel_rfl) (by kernel_rfl) (by kernel_rfl) (fun _ _ _ h => h) (Or.inl (Or.inl ⟨by rfl, ?_⟩)) hS ?_
  rotate_left
  focus ((intro w hSw; (try dsimp only at hSw); have q0 := (Blk.later C8.out hSw).cell 0 _ rfl; have q1 := (Blk.later C8.out hSw).cell 1 _ rfl; have q2 := (Blk.later C8.out hSw).cell 2 _ rfl; have q3 := (Blk.later C8.out hSw).cell 3 _ rfl; have q4 := (Blk.later C8.out hSw).cell 4 _ rfl; have q5 := (Blk.later C8.out hSw).cell 5 _ rfl; have q6 := (Blk.later C8.out hSw).cell 6 _ rfl; have q7 := (Blk.later C8.out hSw).cell 7 _ rfl; have q8 := (Blk.later C8.out hSw).cell 8 _ rfl; go_simp); (try with_reducible rfl))
  intro wq hwq
  replace hS := hS.trans hwq
  (try simp only [Act.put, List.setIfInBounds_toArray, List.set_cons_zero, List.set_cons_succ])
  clear hwq
  refine wpAnyK_take Later.refl (fun _ _ _ h k => h.trans k) (fun _ _ h k => h.trans k) (i := 11) (oi := { dst := some 90, op := _, type := _, pos := _, after := _, guard := _ }) (v := ?_) rfl (by kernel_rfl) (by kernel_rfl) (by kernel_rfl) (fun _ _ _ h => h) (Or.inl (Or.inl ⟨by rfl, ?_⟩)) hS ?_
  rotate_left
  focus ((intro w hSw; (try dsimp only at hSw); have q0 := (Blk.later HD8.out hSw).cell 0 _ rfl; have q1 := (Blk.later HD8.out hSw).cell 1 _ rfl; have q2 := (Blk.later HD8.out hSw).cell 2 _ rfl; have q3 := (Blk.later HD8.out hSw).cell 3 _ rfl; have q4 := (Blk.later HD8.out hSw).cell 4 _ rfl; have q5 := (Blk.later HD8.out hSw).cell 5 _ rfl; have q6 := (Blk.later HD8.out hSw).cell 6 _ rfl; have q7 := (Blk.later HD8.out hSw).cell 7 _ rfl; have q8 := (Blk.later HD8.out hSw).cell 8 _ rfl; go_simp); (try with_reducible rfl))
  intro wq hwq
  replace hS := hS.trans hwq
  (try simp only [Act.put, List.setIfInBounds_toArray, List.set_cons_zero, List.set_cons_succ])
  clear hwq
  refine wpAnyK_take Later.refl (fun _ _ _ h k => h.trans k) (fun _ _ h k => h.trans k) (i := 12) (oi := { dst := some 91, op := _, type := _, pos := _, after := _, guard := _ }) (v := ?_) rfl (by kernel_rfl) (by kernel_rfl) (by kernel_rfl) (fun _ _ _ h => h) (Or.inl (Or.inl ⟨by rfl, ?_⟩)) hS ?_
  rotate_left
  focus ((intro w hSw; (try dsimp only at hSw); have q0 := (Blk.later C8.out hSw).cell 0 _ rfl; have q1 := (Blk.later C8.out hSw).cell 1 _ rfl; have q2 := (Blk.later C8.out hSw).cell 2 _ rfl; have q3 := (Blk.later C8.out hSw).cell 3 _ rfl; have q4 := (Blk.later C8.out hSw).cell 4 _ rfl; have q5 := (Blk.later C8.out hSw).cell 5 _ rfl; have q6 := (Blk.later C8.out hSw).cell 6 _ rfl; have q7 := (Blk.later C8.out hSw).cell 7 _ rfl; have q8 := (Blk.later C8.out hSw).cell 8 _ rfl; go_simp); (try with_reducible rfl))
  intro wq hwq
  replace hS := hS.trans hwq
  (try simp only [Act.put, List.setIfInBounds_toArray, List.set_cons_zero, List.set_cons_succ])
  clear hwq
  refine wpAnyK_take Later.refl (fun _ _ _ h k => h.trans k) (fun _ _ h k => h.trans k) (i := 13) (oi := { dst := some 92, op := _, type := _, pos := _, after := _, guard := _ }) (v := ?_) rfl (by kernel_rfl) (by kernel_rfl) (by kernel_rfl) (fun _ _ _ h => h) (Or.inl (Or.inl ⟨by rfl, ?_⟩)) hS ?_
  rotate_left
  focus ((intro w hSw; (try dsimp only at hSw); have q0 := (Blk.later HD8.out hSw).cell 0 _ rfl; have q1 := (Blk.later HD8.out hSw).cell 1 _ rfl; have q2 := (Blk.later HD8.out hSw).cell 2 _ rfl; have q3 := (Blk.later HD8.out hSw).cell 3 _ rfl; have q4 := (Blk.later HD8.out hSw).cell 4 _ rfl; have q5 := (Blk.later HD8.out hSw).cell 5 _ rfl; have q6 := (Blk.later HD8.out hSw).cell 6 _ rfl; have q7 := (Blk.later HD8.out hSw).cell 7 _ rfl; have q8 := (Blk.later HD8.out hSw).cell 8 _ rfl; go_simp); (try with_reducible rfl))
  intro wq hwq
  replace hS := hS.trans hwq
  (try simp only [Act.put, List.setIfInBounds_toArray, List.set_cons_zero, List.set_cons_succ])
  clear hwq
  refine wpAnyK_all (rs := [4, 9, 14]) (by kernel_rfl) (by simp) (fun i hi => ?_)
  simp only [List.mem_cons, List.not_mem_nil, or_false] at hi
  rcases hi with rfl | rfl | rfl
  ·refine stepK (o := { dst := some 83, op := _, type := _, pos := _, after := _, guard := _ }) rfl (fun K hK => ?_)
   rw [if_pos (by rfl)]
   refine wp_exec (exec_four _ _ _ _ _ _ _ wq rfl _ _ _ _ _ _ (by kernel_rfl) (by kernel_rfl) (by kernel_rfl) (by kernel_rfl) (make_sch4 wq V (some ⟨gv, 0, none⟩) vn vc n2 vc2 last (n2 : Int))) ?_
   refine hK _ _ (Later.trans hS (Later.new _ _)) (fun x1 hxx => ?_)
   obtain ⟨g1, hgg⟩ : ∃ x, wq.heap.size = x := ⟨_, rfl⟩
   have B0 : Blk x1 g1 (abS V vn vc last ++ (abS (some ⟨gv, 0, none⟩) n2 vc2 (n2 : Int) ++ (abS (some ⟨gv, 0, none⟩) n2 vc2 (n2 : Int) ++ abS V vn vc last))).toArray 24 := (Blk.new wq _ _ _ hgg.symm).later hxx
   have lxx : Later wq x1 := (Later.new _ _).trans hxx
   replace hS := Later.trans hS lxx
   rw [hgg]
   clear hK hxx hgg lxx
   (try simp only [Act.put, List.setIfInBounds_toArray, List.set_cons_zero, List.set_cons_succ])
   refine wpAnyK_take Later.refl (fun _ _ _ h k => h.trans k) (fun _ _ h k => h.trans k) (i := 15) (oi := { dst := some 19, op := _, type := _, pos := _, after := _, guard := _ }) (v := ?_) rfl (by kernel_rfl) (by kernel_rfl) (by kernel_rfl) (fun _ _ _ h => h) (Or.inl (Or.inl ⟨by rfl, ?_⟩)) hS ?_
   rotate_left
   focus ((intro w hSw; (try dsimp only at hSw); skip; go_simp); (try with_reducible rfl))
   intro x2 hx2
   replace hS := hS.trans hx2
   (try simp only [Act.put, List.setIfInBounds_toArray, List.set_cons_zero, List.set_cons_succ])
   replace B0 := B0.later hx2; clear hx2
   refine wpAnyK_all (rs := [9, 14]) (by kernel_rfl) (by simp) (fun i hi => ?_)
   simp only [List.mem_cons, List.not_mem_nil, or_false] at hi
   rcases hi with rfl | rfl
   ·refine stepK (o := { dst := some 88, op := _, type := _, pos := _, after := _, guard := _ }) rfl (fun K hK => ?_)
    rw [if_pos (by rfl)]
    refine wp_exec (exec_four _ _ _ _ _ _ _ x2 rfl _ _ _ _ _ _ (by kernel_rfl) (by kernel_rfl) (by kernel_rfl) (by kernel_rfl) (make_lay4 x2 ⟨sb, pb, parts, es⟩ ⟨d0, d1, d2, es2⟩ E (some ⟨ge, 0, none⟩) en ec n2 ec2)) ?_
    refine hK _ _ (Later.trans hS (Later.new _ _)) (fun x3 hxx => ?_)
    obtain ⟨g2, hgg⟩ : ∃ x, x2.heap.size = x := ⟨_, rfl⟩
    have B1 : Blk x3 g2 (abL ⟨sb, pb, parts, es⟩ E en ec ++ (abL ⟨d0, d1, d2, es2⟩ (some ⟨ge, 0, none⟩) n2 ec2 ++ (abL ⟨d0, d1, d2, es2⟩ (some ⟨ge, 0, none⟩) n2 ec2 ++ abL ⟨sb, pb, parts, es⟩ E en ec))).toArray 27 := (Blk.new x2 _ _ _ hgg.symm).later hxx
    have lxx : Later x2 x3 := (Later.new _ _).trans hxx
    replace B0 := B0.later lxx
    replace hS := Later.trans hS lxx
    rw [hgg]
    clear hK hxx hgg lxx
    (try simp only [Act.put, List.setIfInBounds_toArray, List.set_cons_zero, List.set_cons_succ])
    refine wpAnyK_take Later.refl (fun _ _ _ h k => h.trans k) (fun _ _ h k => h.trans k) (i := 16) (oi := { dst := some 20, op := _, type := _, pos := _, after := _, guard := _ }) (v := ?_) rfl (by kernel_rfl) (by kernel_rfl) (by kernel_rfl) (fun _ _ _ h => h) (Or.inl (Or.inl ⟨by rfl, ?_⟩)) hS ?_
    rotate_left
    focus ((intro w hSw; (try dsimp only at hSw); skip; go_simp); (try with_reducible rfl))
    intro x4 hx4
    replace hS := hS.trans hx4
    (try simp only [Act.put, List.setIfInBounds_toArray, List.set_cons_zero, List.set_cons_succ])
    replace B0 := B0.later hx4; replace B1 := B1.later hx4; clear hx4
    refine wpAnyK_all (rs := [14]) (by kernel_rfl) (by simp) (fun i hi => ?_)
    simp only [List.mem_cons, List.not_mem_nil, or_false] at hi
    subst hi
    refine stepK (o := { dst := some 93, op := _, type := _, pos := _, after := _, guard := _ }) rfl (fun K hK => ?_)
    rw [if_pos (by rfl)]
    refine wp_exec (exec_four _ _ _ _ _ _ _ x4 rfl _ _ _ _ _ _ (by kernel_rfl) (by kernel_rfl) (by kernel_rfl) (by kernel_rfl) (make_chg4 x4 ch dh)) ?_
    refine hK _ _ (Later.trans hS (Later.new _ _)) (fun x5 hxx => ?_)
    obtain ⟨g3, hgg⟩ : ∃ x, x4.heap.size = x := ⟨_, rfl⟩
    have B2 : Blk x5 g3 (cvC ch ++ (cvC dh ++ (cvC ch ++ cvC dh))).toArray 31 := (Blk.new x4 _ _ _ hgg.symm).later hxx
    have lxx : Later x4 x5 := (Later.new _ _).trans hxx
    replace B0 := B0.later lxx
    replace B1 := B1.later lxx
    replace hS := Later.trans hS lxx
    rw [hgg]
    clear hK hxx hgg lxx
    (try simp only [Act.put, List.setIfInBounds_toArray, List.set_cons_zero, List.set_cons_succ])
    refine wpAnyK_take Later.refl (fun _ _ _ h k => h.trans k) (fun _ _ h k => h.trans k) (i := 17) (oi := { dst := some 21, op := _, type := _, pos := _, after := _, guard := _ }) (v := ?_) rfl (by kernel_rfl) (by kernel_rfl) (by kernel_rfl) (fun _ _ _ h => h) (Or.inl (Or.inl ⟨by rfl, ?_⟩)) hS ?_
    rotate_left
    focus ((intro w hSw; (try dsimp only at hSw); skip; go_simp); (try with_reducible rfl))
    intro x6 hx6
    replace hS := hS.trans hx6
    (try simp only [Act.put, List.setIfInBounds_toArray, List.set_cons_zero, List.set_cons_succ])
    replace B0 := B0.later hx6; replace B1 := B1.later hx6; replace B2 := B2.later hx6; clear hx6
    refine wpAnyK_done (by kernel_rfl) ?_ _
    go_wp2_with fail
    go_meet
    exact ⟨g1, g2, g3, rfl, rfl, rfl, B0, B1, B2, hS⟩
   ·refine stepK (o := { dst := some 93, op := _, type := _, pos := _, after := _, guard := _ }) rfl (fun K hK => ?_)
    rw [if_pos (by rfl)]
    refine wp_exec (exec_four _ _ _ _ _ _ _ x2 rfl _ _ _ _ _ _ (by kernel_rfl) (by kernel_rfl) (by kernel_rfl) (by kernel_rfl) (make_chg4 x2 ch dh)) ?_
    refine hK _ _ (Later.trans hS (Later.new _ _)) (fun x7 hxx => ?_)
    obtain ⟨g3, hgg⟩ : ∃ x, x2.heap.size = x := ⟨_, rfl⟩
    have B2 : Blk x7 g3 (cvC ch ++ (cvC dh ++ (cvC ch ++ cvC dh))).toArray 31 := (Blk.new x2 _ _ _ hgg.symm).later hxx
    have lxx : Later x2 x7 := (Later.new _ _).trans hxx
    replace B0 := B0.later lxx
    replace hS := Later.trans hS lxx
    rw [hgg]
    clear hK hxx hgg lxx
    (try simp only [Act.put, List.setIfInBounds_toArray, List.set_cons_zero, List.set_cons_succ])
    refine wpAnyK_all (rs := [9]) (by kernel_rfl) (by simp) (fun i hi => ?_)
    simp only [List.mem_cons, List.not_mem_nil, or_false] at hi
    subst hi
    refine stepK (o := { dst := some 88, op := _, type := _, pos := _, after := _, guard := _ }) rfl (fun K hK => ?_)
    rw [if_pos (by rfl)]
    refine wp_exec (exec_four _ _ _ _ _ _ _ x7 rfl _ _ _ _ _ _ (by kernel_rfl) (by kernel_rfl) (by kernel_rfl) (by kernel_rfl) (make_lay4 x7 ⟨sb, pb, parts, es⟩ ⟨d0, d1, d2, es2⟩ E (some ⟨ge, 0, none⟩) en ec n2 ec2)) ?_
    refine hK _ _ (Later.trans hS (Later.new _ _)) (fun x8 hxx => ?_)
    obtain ⟨g2, hgg⟩ : ∃ x, x7.heap.size = x := ⟨_, rfl⟩
    have B1 : Blk x8 g2 (abL ⟨sb, pb, parts, es⟩ E en ec ++ (abL ⟨d0, d1, d2, es2⟩ (some ⟨ge, 0, none⟩) n2 ec2 ++ (abL ⟨d0, d1, d2, es2⟩ (some ⟨ge, 0, none⟩) n2 ec2 ++ abL ⟨sb, pb, parts, es⟩ E en ec))).toArray 27 := (Blk.new x7 _ _ _ hgg.symm).later hxx
    have lxx : Later x7 x8 := (Later.new _ _).trans hxx
    replace B0 := B0.later lxx
    replace B2 := B2.later lxx
    replace hS := Later.trans hS lxx
    rw [hgg]
    clear hK hxx hgg lxx
    (try simp only [Act.put, List.setIfInBounds_toArray, List.set_cons_zero, List.set_cons_succ])
    refine wpAnyK_take Later.refl (fun _ _ _ h k => h.trans k) (fun _ _ h k => h.trans k) (i := 16) (oi := { dst := some 20, op := _, type := _, pos := _, after := _, guard := _ }) (v := ?_) rfl (by kernel_rfl) (by kernel_rfl) (by kernel_rfl) (fun _ _ _ h => h) (Or.inl (Or.inl ⟨by rfl, ?_⟩)) hS ?_
    rotate_left
    focus ((intro w hSw; (try dsimp only at hSw); skip; go_simp); (try with_reducible rfl))
    intro x9 hx9
    replace hS := hS.trans hx9
    (try simp only [Act.put, List.setIfInBounds_toArray, List.set_cons_zero, List.set_cons_succ])
    replace B0 := B0.later hx9; replace B2 := B2.later hx9; replace B1 := B1.later hx9; clear hx9
    refine wpAnyK_take Later.refl (fun _ _ _ h k => h.trans k) (fun _ _ h k => h.trans k) (i := 17) (oi := { dst := some 21, op := _, type := _, pos := _, after := _, guard := _ }) (v := ?_) rfl (by kernel_rfl) (by kernel_rfl) (by kernel_rfl) (fun _ _ _ h => h) (Or.inl (Or.inl ⟨by rfl, ?_⟩)) hS ?_
    rotate_left
    focus ((intro w hSw; (try dsimp only at hSw); skip; go_simp); (try with_reducible rfl))
    intro x10 hx10
    replace hS := hS.trans hx10
    (try simp only [Act.put, List.setIfInBounds_toArray, List.set_cons_zero, List.set_cons_succ])
    replace B0 := B0.later hx10; replace B2 := B2.later hx10; replace B1 := B1.later hx10; clear hx10
    refine wpAnyK_done (by kernel_rfl) ?_ _
    go_wp2_with fail
    go_meet
    exact ⟨g1, g2, g3, rfl, rfl, rfl, B0, B1, B2, hS⟩
  ·refine stepK (o := { dst := some 88, op := _, type := _, pos := _, after := _, guard := _ }) rfl (fun K hK => ?_)
   rw [if_pos (by rfl)]
   refine wp_exec (exec_four _ _ _ _ _ _ _ wq rfl _ _ _ _ _ _ (by kernel_rfl) (by kernel_rfl) (by kernel_rfl) (by kernel_rfl) (make_lay4 wq ⟨sb, pb, parts, es⟩ ⟨d0, d1, d2, es2⟩ E (some ⟨ge, 0, none⟩) en ec n2 ec2)) ?_
   refine hK _ _ (Later.trans hS (Later.new _ _)) (fun x11 hxx => ?_)
   obtain ⟨g2, hgg⟩ : ∃ x, wq.heap.size = x := ⟨_, rfl⟩
   have B1 : Blk x11 g2 (abL ⟨sb, pb, parts, es⟩ E en ec ++ (abL ⟨d0, d1, d2, es2⟩ (some ⟨ge, 0, none⟩) n2 ec2 ++ (abL ⟨d0, d1, d2, es2⟩ (some ⟨ge, 0, none⟩) n2 ec2 ++ abL ⟨sb, pb, parts, es⟩ E en ec))).toArray 27 := (Blk.new wq _ _ _ hgg.symm).later hxx
   have lxx : Later wq x11 := (Later.new _ _).trans hxx
   replace hS := Later.trans hS lxx
   rw [hgg]
   clear hK hxx hgg lxx
   (try simp only [Act.put, List.setIfInBounds_toArray, List.set_cons_zero, List.set_cons_succ])
   refine wpAnyK_all (rs := [4, 14]) (by kernel_rfl) (by simp) (fun i hi => ?_)
   simp only [List.mem_cons, List.not_mem_nil, or_false] at hi
   rcases hi with rfl | rfl
   ·refine stepK (o := { dst := some 83, op := _, type := _, pos := _, after := _, guard := _ }) rfl (fun K hK => ?_)
    rw [if_pos (by rfl)]
    refine wp_exec (exec_four _ _ _ _ _ _ _ x11 rfl _ _ _ _ _ _ (by kernel_rfl) (by kernel_rfl) (by kernel_rfl) (by kernel_rfl) (make_sch4 x11 V (some ⟨gv, 0, none⟩) vn vc n2 vc2 last (n2 : Int))) ?_
    refine hK _ _ (Later.trans hS (Later.new _ _)) (fun x12 hxx => ?_)
    obtain ⟨g1, hgg⟩ : ∃ x, x11.heap.size = x := ⟨_, rfl⟩
    have B0 : Blk x12 g1 (abS V vn vc last ++ (abS (some ⟨gv, 0, none⟩) n2 vc2 (n2 : Int) ++ (abS (some ⟨gv, 0, none⟩) n2 vc2 (n2 : Int) ++ abS V vn vc last))).toArray 24 := (Blk.new x11 _ _ _ hgg.symm).later hxx
    have lxx : Later x11 x12 := (Later.new _ _).trans hxx
    replace B1 := B1.later lxx
    replace hS := Later.trans hS lxx
    rw [hgg]
    clear hK hxx hgg lxx
    (try simp only [Act.put, List.setIfInBounds_toArray, List.set_cons_zero, List.set_cons_succ])
    refine wpAnyK_take Later.refl (fun _ _ _ h k => h.trans k) (fun _ _ h k => h.trans k) (i := 15) (oi := { dst := some 19, op := _, type := _, pos := _, after := _, guard := _ }) (v := ?_) rfl (by kernel_rfl) (by kernel_rfl) (by kernel_rfl) (fun _ _ _ h => h) (Or.inl (Or.inl ⟨by rfl, ?_⟩)) hS ?_
    rotate_left
    focus ((intro w hSw; (try dsimp only at hSw); skip; go_simp); (try with_reducible rfl))
    intro x13 hx13
    replace hS := hS.trans hx13
    (try simp only [Act.put, List.setIfInBounds_toArray, List.set_cons_zero, List.set_cons_succ])
    replace B1 := B1.later hx13; replace B0 := B0.later hx13; clear hx13
    refine wpAnyK_take Later.refl (fun _ _ _ h k => h.trans k) (fun _ _ h k => h.trans k) (i := 16) (oi := { dst := some 20, op := _, type := _, pos := _, after := _, guard := _ }) (v := ?_) rfl (by kernel_rfl) (by kernel_rfl) (by kernel_rfl) (fun _ _ _ h => h) (Or.inl (Or.inl ⟨by rfl, ?_⟩)) hS ?_
    rotate_left
    focus ((intro w hSw; (try dsimp only at hSw); skip; go_simp); (try with_reducible rfl))
    intro x14 hx14
    replace hS := hS.trans hx14
    (try simp only [Act.put, List.setIfInBounds_toArray, List.set_cons_zero, List.set_cons_succ])
    replace B1 := B1.later hx14; replace B0 := B0.later hx14; clear hx14
    refine wpAnyK_all (rs := [14]) (by kernel_rfl) (by simp) (fun i hi => ?_)
    simp only [List.mem_cons, List.not_mem_nil, or_false] at hi
    subst hi
    refine stepK (o := { dst := some 93, op := _, type := _, pos := _, after := _, guard := _ }) rfl (fun K hK => ?_)
    rw [if_pos (by rfl)]
    refine wp_exec (exec_four _ _ _ _ _ _ _ x14 rfl _ _ _ _ _ _ (by kernel_rfl) (by kernel_rfl) (by kernel_rfl) (by kernel_rfl) (make_chg4 x14 ch dh)) ?_
    refine hK _ _ (Later.trans hS (Later.new _ _)) (fun x15 hxx => ?_)
    obtain ⟨g3, hgg⟩ : ∃ x, x14.heap.size = x := ⟨_, rfl⟩
    have B2 : Blk x15 g3 (cvC ch ++ (cvC dh ++ (cvC ch ++ cvC dh))).toArray 31 := (Blk.new x14 _ _ _ hgg.symm).later hxx
    have lxx : Later x14 x15 := (Later.new _ _).trans hxx
    replace B1 := B1.later lxx
    replace B0 := B0.later lxx
    replace hS := Later.trans hS lxx
    rw [hgg]
    clear hK hxx hgg lxx
    (try simp only [Act.put, List.setIfInBounds_toArray, List.set_cons_zero, List.set_cons_succ])
    refine wpAnyK_take Later.refl (fun _ _ _ h k => h.trans k) (fun _ _ h k => h.trans k) (i := 17) (oi := { dst := some 21, op := _, type := _, pos := _, after := _, guard := _ }) (v := ?_) rfl (by kernel_rfl) (by kernel_rfl) (by kernel_rfl) (fun _ _ _ h => h) (Or.inl (Or.inl ⟨by rfl, ?_⟩)) hS ?_
    rotate_left
    focus ((intro w hSw; (try dsimp only at hSw); skip; go_simp); (try with_reducible rfl))
    intro x16 hx16
    replace hS := hS.trans hx16
    (try simp only [Act.put, List.setIfInBounds_toArray, List.set_cons_zero, List.set_cons_succ])
    replace B1 := B1.later hx16; replace B0 := B0.later hx16; replace B2 := B2.later hx16; clear hx16
    refine wpAnyK_done (by kernel_rfl) ?_ _
    go_wp2_with fail
    go_meet
    exact ⟨g1, g2, g3, rfl, rfl, rfl, B0, B1, B2, hS⟩
   ·refine stepK (o := { dst := some 93, op := _, type := _, pos := _, after := _, guard := _ }) rfl (fun K hK => ?_)
    rw [if_pos (by rfl)]
    refine wp_exec (exec_four _ _ _ _ _ _ _ x11 rfl _ _ _ _ _ _ (by kernel_rfl) (by kernel_rfl) (by kernel_rfl) (by kernel_rfl) (make_chg4 x11 ch dh)) ?_
    refine hK _ _ (Later.trans hS (Later.new _ _)) (fun x17 hxx => ?_)
    obtain ⟨g3, hgg⟩ : ∃ x, x11.heap.size = x := ⟨_, rfl⟩
    have B2 : Blk x17 g3 (cvC ch ++ (cvC dh ++ (cvC ch ++ cvC dh))).toArray 31 := (Blk.new x11 _ _ _ hgg.symm).later hxx
    have lxx : Later x11 x17 := (Later.new _ _).trans hxx
    replace B1 := B1.later lxx
    replace hS := Later.trans hS lxx
    rw [hgg]
    clear hK hxx hgg lxx
    (try simp only [Act.put, List.setIfInBounds_toArray, List.set_cons_zero, List.set_cons_succ])
    refine wpAnyK_all (rs := [4]) (by kernel_rfl) (by simp) (fun i hi => ?_)
    simp only [List.mem_cons, List.not_mem_nil, or_false] at hi
    subst hi
    refine stepK (o := { dst := some 83, op := _, type := _, pos := _, after := _, guard := _ }) rfl (fun K hK => ?_)
    rw [if_pos (by rfl)]
    refine wp_exec (exec_four _ _ _ _ _ _ _ x17 rfl _ _ _ _ _ _ (by kernel_rfl) (by kernel_rfl) (by kernel_rfl) (by kernel_rfl) (make_sch4 x17 V (some ⟨gv, 0, none⟩) vn vc n2 vc2 last (n2 : Int))) ?_
    refine hK _ _ (Later.trans hS (Later.new _ _)) (fun x18 hxx => ?_)
    obtain ⟨g1, hgg⟩ : ∃ x, x17.heap.size = x := ⟨_, rfl⟩
    have B0 : Blk x18 g1 (abS V vn vc last ++ (abS (some ⟨gv, 0, none⟩) n2 vc2 (n2 : Int) ++ (abS (some ⟨gv, 0, none⟩) n2 vc2 (n2 : Int) ++ abS V vn vc last))).toArray 24 := (Blk.new x17 _ _ _ hgg.symm).later hxx
    have lxx : Later x17 x18 := (Later.new _ _).trans hxx
    replace B1 := B1.later lxx
    replace B2 := B2.later lxx
    replace hS := Later.trans hS lxx
    rw [hgg]
    clear hK hxx hgg lxx
    (try simp only [Act.put, List.setIfInBounds_toArray, List.set_cons_zero, List.set_cons_succ])
    refine wpAnyK_take Later.refl (fun _ _ _ h k => h.trans k) (fun _ _ h k => h.trans k) (i := 15) (oi := { dst := some 19, op := _, type := _, pos := _, after := _, guard := _ }) (v := ?_) rfl (by kernel_rfl) (by kernel_rfl) (by kernel_rfl) (fun _ _ _ h => h) (Or.inl (Or.inl ⟨by rfl, ?_⟩)) hS ?_
    rotate_left
    focus ((intro w hSw; (try dsimp only at hSw); skip; go_simp); (try with_reducible rfl))
    intro x19 hx19
    replace hS := hS.trans hx19
    (try simp only [Act.put, List.setIfInBounds_toArray, List.set_cons_zero, List.set_cons_succ])
    replace B1 := B1.later hx19; replace B2 := B2.later hx19; replace B0 := B0.later hx19; clear hx19
    refine wpAnyK_take Later.refl (fun _ _ _ h k => h.trans k) (fun _ _ h k => h.trans k) (i := 16) (oi := { dst := some 20, op := _, type := _, pos := _, after := _, guard := _ }) (v := ?_) rfl (by kernel_rfl) (by kernel_rfl) (by kernel_rfl) (fun _ _ _ h => h) (Or.inl (Or.inl ⟨by rfl, ?_⟩)) hS ?_
    rotate_left
    focus ((intro w hSw; (try dsimp only at hSw); skip; go_simp); (try with_reducible rfl))
    intro x20 hx20
    replace hS := hS.trans hx20
    (try simp only [Act.put, List.setIfInBounds_toArray, List.set_cons_zero, List.set_cons_succ])
    replace B1 := B1.later hx20; replace B2 := B2.later hx20; replace B0 := B0.later hx20; clear hx20
    refine wpAnyK_take Later.refl (fun _ _ _ h k => h.trans k) (fun _ _ h k => h.trans k) (i := 17) (oi := { dst := some 21, op := _, type := _, pos := _, after := _, guard := _ }) (v := ?_) rfl (by kernel_rfl) (by kernel_rfl) (by kernel_rfl) (fun _ _ _ h => h) (Or.inl (Or.inl ⟨by rfl, ?_⟩)) hS ?_
    rotate_left
    focus ((intro w hSw; (try dsimp only at hSw); skip; go_simp); (try with_reducible rfl))
    intro x21 hx21
    replace hS := hS.trans hx21
    (try simp only [Act.put, List.setIfInBounds_toArray, List.set_cons_zero, List.set_cons_succ])
    replace B1 := B1.later hx21; replace B2 := B2.later hx21; replace B0 := B0.later hx21; clear hx21
    refine wpAnyK_done (by kernel_rfl) ?_ _
    go_wp2_with fail
    go_meet
    exact ⟨g1, g2, g3, rfl, rfl, rfl, B0, B1, B2, hS⟩
  ·refine stepK (o := { dst := some 93, op := _, type := _, pos := _, after := _, guard := _ }) rfl (fun K hK => ?_)
   rw [if_pos (by rfl)]
   refine wp_exec (exec_four _ _ _ _ _ _ _ wq rfl _ _ _ _ _ _ (by kernel_rfl) (by kernel_rfl) (by kernel_rfl) (by kernel_rfl) (make_chg4 wq ch dh)) ?_
   refine hK _ _ (Later.trans hS (Later.new _ _)) (fun x22 hxx => ?_)
   obtain ⟨g3, hgg⟩ : ∃ x, wq.heap.size = x := ⟨_, rfl⟩
   have B2 : Blk x22 g3 (cvC ch ++ (cvC dh ++ (cvC ch ++ cvC dh))).toArray 31 := (Blk.new wq _ _ _ hgg.symm).later hxx
   have lxx : Later wq x22 := (Later.new _ _).trans hxx
   replace hS := Later.trans hS lxx
   rw [hgg]
   clear hK hxx hgg lxx
   (try simp only [Act.put, List.setIfInBounds_toArray, List.set_cons_zero, List.set_cons_succ])
   refine wpAnyK_all (rs := [4, 9]) (by kernel_rfl) (by simp) (fun i hi => ?_)
   simp only [List.mem_cons, List.not_mem_nil, or_false] at hi
   rcases hi with rfl | rfl
   ·refine stepK (o := { dst := some 83, op := _, type := _, pos := _, after := _, guard := _ }) rfl (fun K hK => ?_)
    rw [if_pos (by rfl)]
    refine wp_exec (exec_four _ _ _ _ _ _ _ x22 rfl _ _ _ _ _ _ (by kernel_rfl) (by kernel_rfl) (by kernel_rfl) (by kernel_rfl) (make_sch4 x22 V (some ⟨gv, 0, none⟩) vn vc n2 vc2 last (n2 : Int))) ?_
    refine hK _ _ (Later.trans hS (Later.new _ _)) (fun x23 hxx => ?_)
    obtain ⟨g1, hgg⟩ : ∃ x, x22.heap.size = x := ⟨_, rfl⟩
    have B0 : Blk x23 g1 (abS V vn vc last ++ (abS (some ⟨gv, 0, none⟩) n2 vc2 (n2 : Int) ++ (abS (some ⟨gv, 0, none⟩) n2 vc2 (n2 : Int) ++ abS V vn vc last))).toArray 24 := (Blk.new x22 _ _ _ hgg.symm).later hxx
    have lxx : Later x22 x23 := (Later.new _ _).trans hxx
    replace B2 := B2.later lxx
    replace hS := Later.trans hS lxx
    rw [hgg]
    clear hK hxx hgg lxx
    (try simp only [Act.put, List.setIfInBounds_toArray, List.set_cons_zero, List.set_cons_succ])
    refine wpAnyK_take Later.refl (fun _ _ _ h k => h.trans k) (fun _ _ h k => h.trans k) (i := 15) (oi := { dst := some 19, op := _, type := _, pos := _, after := _, guard := _ }) (v := ?_) rfl (by kernel_rfl) (by kernel_rfl) (by kernel_rfl) (fun _ _ _ h => h) (Or.inl (Or.inl ⟨by rfl, ?_⟩)) hS ?_
    rotate_left
    focus ((intro w hSw; (try dsimp only at hSw); skip; go_simp); (try with_reducible rfl))
    intro x24 hx24
    replace hS := hS.trans hx24
    (try simp only [Act.put, List.setIfInBounds_toArray, List.set_cons_zero, List.set_cons_succ])
    replace B2 := B2.later hx24; replace B0 := B0.later hx24; clear hx24
    refine wpAnyK_all (rs := [9]) (by kernel_rfl) (by simp) (fun i hi => ?_)
    simp only [List.mem_cons, List.not_mem_nil, or_false] at hi
    subst hi
    refine stepK (o := { dst := some 88, op := _, type := _, pos := _, after := _, guard := _ }) rfl (fun K hK => ?_)
    rw [if_pos (by rfl)]
    refine wp_exec (exec_four _ _ _ _ _ _ _ x24 rfl _ _ _ _ _ _ (by kernel_rfl) (by kernel_rfl) (by kernel_rfl) (by kernel_rfl) (make_lay4 x24 ⟨sb, pb, parts, es⟩ ⟨d0, d1, d2, es2⟩ E (some ⟨ge, 0, none⟩) en ec n2 ec2)) ?_
    refine hK _ _ (Later.trans hS (Later.new _ _)) (fun x25 hxx => ?_)
    obtain ⟨g2, hgg⟩ : ∃ x, x24.heap.size = x := ⟨_, rfl⟩
    have B1 : Blk x25 g2 (abL ⟨sb, pb, parts, es⟩ E en ec ++ (abL ⟨d0, d1, d2, es2⟩ (some ⟨ge, 0, none⟩) n2 ec2 ++ (abL ⟨d0, d1, d2, es2⟩ (some ⟨ge, 0, none⟩) n2 ec2 ++ abL ⟨sb, pb, parts, es⟩ E en ec))).toArray 27 := (Blk.new x24 _ _ _ hgg.symm).later hxx
    have lxx : Later x24 x25 := (Later.new _ _).trans hxx
    replace B2 := B2.later lxx
    replace B0 := B0.later lxx
    replace hS := Later.trans hS lxx
    rw [hgg]
    clear hK hxx hgg lxx
    (try simp only [Act.put, List.setIfInBounds_toArray, List.set_cons_zero, List.set_cons_succ])
    refine wpAnyK_take Later.refl (fun _ _ _ h k => h.trans k) (fun _ _ h k => h.trans k) (i := 16) (oi := { dst := some 20, op := _, type := _, pos := _, after := _, guard := _ }) (v := ?_) rfl (by kernel_rfl) (by kernel_rfl) (by kernel_rfl) (fun _ _ _ h => h) (Or.inl (Or.inl ⟨by rfl, ?_⟩)) hS ?_
    rotate_left
    focus ((intro w hSw; (try dsimp only at hSw); skip; go_simp); (try with_reducible rfl))
    intro x26 hx26
    replace hS := hS.trans hx26
    (try simp only [Act.put, List.setIfInBounds_toArray, List.set_cons_zero, List.set_cons_succ])
    replace B2 := B2.later hx26; replace B0 := B0.later hx26; replace B1 := B1.later hx26; clear hx26
    refine wpAnyK_take Later.refl (fun _ _ _ h k => h.trans k) (fun _ _ h k => h.trans k) (i := 17) (oi := { dst := some 21, op := _, type := _, pos := _, after := _, guard := _ }) (v := ?_) rfl (by kernel_rfl) (by kernel_rfl) (by kernel_rfl) (fun _ _ _ h => h) (Or.inl (Or.inl ⟨by rfl, ?_⟩)) hS ?_
    rotate_left
    focus ((intro w hSw; (try dsimp only at hSw); skip; go_simp); (try with_reducible rfl))
    intro x27 hx27
    replace hS := hS.trans hx27
    (try simp only [Act.put, List.setIfInBounds_toArray, List.set_cons_zero, List.set_cons_succ])
    replace B2 := B2.later hx27; replace B0 := B0.later hx27; replace B1 := B1.later hx27; clear hx27
    refine wpAnyK_done (by kernel_rfl) ?_ _
    go_wp2_with fail
    go_meet
    exact ⟨g1, g2, g3, rfl, rfl, rfl, B0, B1, B2, hS⟩
   ·refine stepK (o := { dst := some 88, op := _, type := _, pos := _, after := _, guard := _ }) rfl (fun K hK => ?_)
    rw [if_pos (by rfl)]
    refine wp_exec (exec_four _ _ _ _ _ _ _ x22 rfl _ _ _ _ _ _ (by kernel_rfl) (by kernel_rfl) (by kernel_rfl) (by kernel_rfl) (make_lay4 x22 ⟨sb, pb, parts, es⟩ ⟨d0, d1, d2, es2⟩ E (some ⟨ge, 0, none⟩) en ec n2 ec2)) ?_
    refine hK _ _ (Later.trans hS (Later.new _ _)) (fun x28 hxx => ?_)
    obtain ⟨g2, hgg⟩ : ∃ x, x22.heap.size = x := ⟨_, rfl⟩
    have B1 : Blk x28 g2 (abL ⟨sb, pb, parts, es⟩ E en ec ++ (abL ⟨d0, d1, d2, es2⟩ (some ⟨ge, 0, none⟩) n2 ec2 ++ (abL ⟨d0, d1, d2, es2⟩ (some ⟨ge, 0, none⟩) n2 ec2 ++ abL ⟨sb, pb, parts, es⟩ E en ec))).toArray 27 := (Blk.new x22 _ _ _ hgg.symm).later hxx
    have lxx : Later x22 x28 := (Later.new _ _).trans hxx
    replace B2 := B2.later lxx
    replace hS := Later.trans hS lxx
    rw [hgg]
    clear hK hxx hgg lxx
    (try simp only [Act.put, List.setIfInBounds_toArray, List.set_cons_zero, List.set_cons_succ])
    refine wpAnyK_all (rs := [4]) (by kernel_rfl) (by simp) (fun i hi => ?_)
    simp only [List.mem_cons, List.not_mem_nil, or_false] at hi
    subst hi
    refine stepK (o := { dst := some 83, op := _, type := _, pos := _, after := _, guard := _ }) rfl (fun K hK => ?_)
    rw [if_pos (by rfl)]
    refine wp_exec (exec_four _ _ _ _ _ _ _ x28 rfl _ _ _ _ _ _ (by kernel_rfl) (by kernel_rfl) (by kernel_rfl) (by kernel_rfl) (make_sch4 x28 V (some ⟨gv, 0, none⟩) vn vc n2 vc2 last (n2 : Int))) ?_
    refine hK _ _ (Later.trans hS (Later.new _ _)) (fun x29 hxx => ?_)
    obtain ⟨g1, hgg⟩ : ∃ x, x28.heap.size = x := ⟨_, rfl⟩
    have B0 : Blk x29 g1 (abS V vn vc last ++ (abS (some ⟨gv, 0, none⟩) n2 vc2 (n2 : Int) ++ (abS (some ⟨gv, 0, none⟩) n2 vc2 (n2 : Int) ++ abS V vn vc last))).toArray 24 := (Blk.new x28 _ _ _ hgg.symm).later hxx
    have lxx : Later x28 x29 := (Later.new _ _).trans hxx
    replace B2 := B2.later lxx
    replace B1 := B1.later lxx
    replace hS := Later.trans hS lxx
    rw [hgg]
    clear hK hxx hgg lxx
    (try simp only [Act.put, List.setIfInBounds_toArray, List.set_cons_zero, List.set_cons_succ])
    refine wpAnyK_take Later.refl (fun _ _ _ h k => h.trans k) (fun _ _ h k => h.trans k) (i := 15) (oi := { dst := some 19, op := _, type := _, pos := _, after := _, guard := _ }) (v := ?_) rfl (by kernel_rfl) (by kernel_rfl) (by kernel_rfl) (fun _ _ _ h => h) (Or.inl (Or.inl ⟨by rfl, ?_⟩)) hS ?_
    rotate_left
    focus ((intro w hSw; (try dsimp only at hSw); skip; go_simp); (try with_reducible rfl))
    intro x30 hx30
    replace hS := hS.trans hx30
    (try simp only [Act.put, List.setIfInBounds_toArray, List.set_cons_zero, List.set_cons_succ])
    replace B2 := B2.later hx30; replace B1 := B1.later hx30; replace B0 := B0.later hx30; clear hx30
    refine wpAnyK_take Later.refl (fun _ _ _ h k => h.trans k) (fun _ _ h k => h.trans k) (i := 16) (oi := { dst := some 20, op := _, type := _, pos := _, after := _, guard := _ }) (v := ?_) rfl (by kernel_rfl) (by kernel_rfl) (by kernel_rfl) (fun _ _ _ h => h) (Or.inl (Or.inl ⟨by rfl, ?_⟩)) hS ?_
    rotate_left
    focus ((intro w hSw; (try dsimp only at hSw); skip; go_simp); (try with_reducible rfl))
    intro x31 hx31
    replace hS := hS.trans hx31
    (try simp only [Act.put, List.setIfInBounds_toArray, List.set_cons_zero, List.set_cons_succ])
    replace B2 := B2.later hx31; replace B1 := B1.later hx31; replace B0 := B0.later hx31; clear hx31
    refine wpAnyK_take Later.refl (fun _ _ _ h k => h.trans k) (fun _ _ h k => h.trans k) (i := 17) (oi := { dst := some 21, op := _, type := _, pos := _, after := _, guard := _ }) (v := ?_) rfl (by kernel_rfl) (by kernel_rfl) (by kernel_rfl) (fun _ _ _ h => h) (Or.inl (Or.inl ⟨by rfl, ?_⟩)) hS ?_
    rotate_left
    focus ((intro w hSw; (try dsimp only at hSw); skip; go_simp); (try with_reducible rfl))
    intro x32 hx32
    replace hS := hS.trans hx32
    (try simp only [Act.put, List.setIfInBounds_toArray, List.set_cons_zero, List.set_cons_succ])
    replace B2 := B2.later hx32; replace B1 := B1.later hx32; replace B0 := B0.later hx32; clear hx32
    refine wpAnyK_done (by kernel_rfl) ?_ _
    go_wp2_with fail
    go_meet
    exact ⟨g1, g2, g3, rfl, rfl, rfl, B0, B1, B2, hS⟩
 case rest =>
 obtain ⟨g1, g2, g3, rfl, rfl, rfl, B0, B1, B2, l9⟩ := hcut
 have HRI := Lib.hid (rin_four (s := (xs, last, ⟨sb, pb, parts, es⟩)) (t := (cols, (n2 : Int), ⟨d0, d1, d2, es2⟩)) (c := ch) (d := dh) (V := V) (V2 := some ⟨gv, 0, none⟩) (E := E) (E2 := some ⟨ge, 0, none⟩) (vc := vc) (vc2 := vc2) (ec := ec) (ec2 := ec2) (w := wc) (g1 := g1) (g2 := g2) (g3 := g3)
  (by dsimp only; rw [← HVN.out.1, HN2.out.1]; exact B0) (by dsimp only; rw [← HEN.out, HN2.out.2.1]; exact B1) B2 (HV.out.later (HL8.out.trans l9)) (HE.out.later (HL8.out.trans l9)) (HV8.out.later l9) (HE8.out.later l9)
  ⟨HLI.out.1, by have := HLI.out.2.1; have := HEN.out; dsimp only; omega⟩ ⟨by have := HN2.out; dsimp only; omega, by have := HN2.out; dsimp only; omega⟩ HLI.out.2.2 (fun x hx => HMAY.out.small x hx) hcn HDN.out hvz hez (fun h => by cases h) (fun h => by cases h))
 have HL9 := Lib.hid (HL8.out.trans l9)
 have HPK9 := Lib.hid (HPK8.out.later l9)
 have HBT9 := Lib.hid (HBT8.out.later l9)
 have HV9 := Lib.hid (HV8.out.later l9)
 have HS9 := Lib.hid (HS.out.later (HL8.out.trans l9))
 have H39 := Lib.hid (H3.out.later (HL8.out.trans l9))
 have HR9 := Lib.hid (HR.out.later (HL8.out.trans l9))
 clear B0 B1 B2 l9 HV8 HE8 HBT8 HBM8 HPK8 HD8 S8 L8 C8 HL8 HLI HS0 HL0 HC0 HV HE HR HS HA
 go_wp2_with fail
 go_loopw [22] (fun iv wr => ∃ k : Nat, k ≤ 4 ∧ iv = .int .i64 k ∧ Later wc wr) (fun i _ => 4 - (intOf i).toNat)
 case atStart => exact ⟨0, by omega, rfl, Later.refl _⟩
 case round =>
  obtain ⟨k, hk4, rfl, lat⟩ := hrel
  have HLT := Lib.hid lat
  clear lat
  by_cases hlt : k < 4
  rotate_left
  ·have hii : ¬ (k : Int) < 4 := by omega
   have hLT := HLT.out
   have HB9 := Lib.hid (HBT9.out.later hLT)
   have HP9 := Lib.hid (HPK9.out.later hLT)
   have HV10 := Lib.hid (HV9.out.later hLT)
   have HL10 := Lib.hid (HL9.out.trans hLT)
   have HMN := Lib.hid (fun (W : World) => (mayName_any nm W (by have := HSZ.out; omega)).mono fun e w' h => TellsP.tp h)
   have HMR := Lib.hid (fun (W : World) => (refMayName_any nm W (by have := HSZ.out; omega)).mono fun e w' h => TellsP.tp h)
   generalize tp (NameL nm) = b4 at HMN HMR
   have HRW := Lib.hid (fun (W : World) (hf : Far g wr W) (hp : Pks W g A n cA bs) => row_any g A n cA bs (some ⟨gv, 0, none⟩) n2 vc2 (n2 : Int) cols W HCC.out hp HN2.out.1.symm (by have := HN2.out; omega) (HasX.mk4 (Has.far HV10.out hf HNE.out.1) HNE.out.1))
   clear hLT HRI HLT
   go_upto_region 22 with fail
   refine wp_region_K (S := (fun W : World => Far g wr W ∧ Pks W g A n cA bs)) (R := Later) (fun _ => Later.refl _) (by kernel_rfl) ?_
   have hS : (fun W : World => Far g wr W ∧ Pks W g A n cA bs) wr.drew := ⟨(Far.refl HP9.out.lt).later (Later.refl wr).drew, HP9.out.later (Later.refl wr).drew⟩
   refine wpAnyK_take Later.refl (fun _ _ _ h k => h.trans k) (fun _ _ h k => ⟨h.1.later k, h.2.later k⟩) (i := 0) (oi := { dst := some 250, op := _, type := _, pos := _, after := _, guard := _ }) (v := ?_) rfl (by kernel_rfl) (by kernel_rfl) (by kernel_rfl) (fun _ _ _ h => h) (Or.inl (Or.inl ⟨by rfl, ?_⟩)) hS ?_
   rotate_left
   focus ((intro w hSw; (try dsimp only at hSw); skip; go_simp); (try with_reducible rfl))
   intro wq hwq
   replace hS := (⟨hS.1.later hwq, hS.2.later hwq⟩ : Far g wr wq ∧ Pks wq g A n cA bs)
   (try simp only [Act.put, List.setIfInBounds_toArray, List.set_cons_zero, List.set_cons_succ])
   clear hwq
   refine wpAnyK_take Later.refl (fun _ _ _ h k => h.trans k) (fun _ _ h k => ⟨h.1.later k, h.2.later k⟩) (i := 1) (oi := { dst := some 251, op := _, type := _, pos := _, after := _, guard := _ }) (v := .bool b4) rfl (by kernel_rfl) (by kernel_rfl) (by kernel_rfl) (fun _ _ _ h => h) (Or.inr ⟨by rfl, 28, #[.string nm], fun W hW => ⟨?_, HMN.out W⟩⟩) hS ?_
   ·first | rfl | (go_simp; done)
   intro wq hwq
   replace hS := (⟨hS.1.later hwq, hS.2.later hwq⟩ : Far g wr wq ∧ Pks wq g A n cA bs)
   (try simp only [Act.put, List.setIfInBounds_toArray, List.set_cons_zero, List.set_cons_succ])
   clear hwq
   refine wpAnyK_take Later.refl (fun _ _ _ h k => h.trans k) (fun _ _ h k => ⟨h.1.later k, h.2.later k⟩) (i := 2) (oi := { dst := some 252, op := _, type := _, pos := _, after := _, guard := _ }) (v := ?_) rfl (by kernel_rfl) (by kernel_rfl) (by kernel_rfl) (fun _ _ _ h => h) (Or.inl (Or.inl ⟨by rfl, ?_⟩)) hS ?_
   rotate_left
   focus ((intro w hSw; (try dsimp only at hSw); skip; go_simp); (try with_reducible rfl))
   intro wq hwq
   replace hS := (⟨hS.1.later hwq, hS.2.later hwq⟩ : Far g wr wq ∧ Pks wq g A n cA bs)
   (try simp only [Act.put, List.setIfInBounds_toArray, List.set_cons_zero, List.set_cons_succ])
   clear hwq
   refine wpAnyK_take Later.refl (fun _ _ _ h k => h.trans k) (fun _ _ h k => ⟨h.1.later k, h.2.later k⟩) (i := 3) (oi := { dst := some 253, op := _, type := _, pos := _, after := _, guard := _ }) (v := .bool b4) rfl (by kernel_rfl) (by kernel_rfl) (by kernel_rfl) (fun _ _ _ h => h) (Or.inr ⟨by rfl, 29, #[.string nm], fun W hW => ⟨?_, HMR.out W⟩⟩) hS ?_
   ·first | rfl | (go_simp; done)
   intro wq hwq
   replace hS := (⟨hS.1.later hwq, hS.2.later hwq⟩ : Far g wr wq ∧ Pks wq g A n cA bs)
   (try simp only [Act.put, List.setIfInBounds_toArray, List.set_cons_zero, List.set_cons_succ])
   clear hwq
   refine wpAnyK_take Later.refl (fun _ _ _ h k => h.trans k) (fun _ _ h k => ⟨h.1.later k, h.2.later k⟩) (i := 4) (oi := { dst := some 254, op := _, type := _, pos := _, after := _, guard := _ }) (v := ?_) rfl (by kernel_rfl) (by kernel_rfl) (by kernel_rfl) (fun _ _ _ h => h) (Or.inl (Or.inl ⟨by rfl, ?_⟩)) hS ?_
   rotate_left
   focus ((intro w hSw; (try dsimp only at hSw); skip; go_simp); (try with_reducible rfl))
   intro wq hwq
   replace hS := (⟨hS.1.later hwq, hS.2.later hwq⟩ : Far g wr wq ∧ Pks wq g A n cA bs)
   (try simp only [Act.put, List.setIfInBounds_toArray, List.set_cons_zero, List.set_cons_succ])
   clear hwq
   refine wpAnyK_take Later.refl (fun _ _ _ h k => h.trans k) (fun _ _ h k => ⟨h.1.later k, h.2.later k⟩) (i := 5) (oi := { dst := some 255, op := _, type := _, pos := _, after := _, guard := _ }) (v := ?_) rfl (by kernel_rfl) (by kernel_rfl) (by kernel_rfl) (fun _ _ _ h => h) (Or.inl (Or.inl ⟨by rfl, ?_⟩)) hS ?_
   rotate_left
   focus ((intro w hSw; (try dsimp only at hSw); skip; go_simp); (try with_reducible rfl))
   intro wq hwq
   replace hS := (⟨hS.1.later hwq, hS.2.later hwq⟩ : Far g wr wq ∧ Pks wq g A n cA bs)
   (try simp only [Act.put, List.setIfInBounds_toArray, List.set_cons_zero, List.set_cons_succ])
   clear hwq
   refine wpAnyK_take Later.refl (fun _ _ _ h k => h.trans k) (fun _ _ h k => ⟨h.1.later k, h.2.later k⟩) (i := 6) (oi := { dst := some 256, op := _, type := _, pos := _, after := _, guard := _ }) (v := ?_) rfl (by kernel_rfl) (by kernel_rfl) (by kernel_rfl) (fun _ _ _ h => h) (Or.inl (Or.inl ⟨by rfl, ?_⟩)) hS ?_
   rotate_left
   focus ((intro w hSw; (try dsimp only at hSw); have q0 := (hSw.1.blk HB9.out HGS.out.1).cell 0 _ rfl; have q1 := (hSw.1.blk HB9.out HGS.out.1).cell 1 _ rfl; go_simp); (try with_reducible rfl))
   intro wq hwq
   replace hS := (⟨hS.1.later hwq, hS.2.later hwq⟩ : Far g wr wq ∧ Pks wq g A n cA bs)
   (try simp only [Act.put, List.setIfInBounds_toArray, List.set_cons_zero, List.set_cons_succ])
   clear hwq
   refine wpAnyK_take Later.refl (fun _ _ _ h k => h.trans k) (fun _ _ h k => ⟨h.1.later k, h.2.later k⟩) (i := 7) (oi := { dst := some 257, op := _, type := _, pos := _, after := _, guard := _ }) (v := ?_) rfl (by kernel_rfl) (by kernel_rfl) (by kernel_rfl) (fun _ _ _ h => h) (Or.inl (Or.inl ⟨by rfl, ?_⟩)) hS ?_
   rotate_left
   focus ((intro w hSw; (try dsimp only at hSw); skip; go_simp); (try with_reducible rfl))
   intro wq hwq
   replace hS := (⟨hS.1.later hwq, hS.2.later hwq⟩ : Far g wr wq ∧ Pks wq g A n cA bs)
   (try simp only [Act.put, List.setIfInBounds_toArray, List.set_cons_zero, List.set_cons_succ])
   clear hwq
   refine wpAnyK_take Later.refl (fun _ _ _ h k => h.trans k) (fun _ _ h k => ⟨h.1.later k, h.2.later k⟩) (i := 8) (oi := { dst := some 258, op := _, type := _, pos := _, after := _, guard := _ }) (v := ?_) rfl (by kernel_rfl) (by kernel_rfl) (by kernel_rfl) (fun _ _ _ h => h) (Or.inl (Or.inl ⟨by rfl, ?_⟩)) hS ?_
   rotate_left
   focus ((intro w hSw; (try dsimp only at hSw); have q0 := (hSw.1.blk HB9.out HGS.out.1).cell 0 _ rfl; have q1 := (hSw.1.blk HB9.out HGS.out.1).cell 1 _ rfl; go_simp); (try with_reducible rfl))
   intro wq hwq
   replace hS := (⟨hS.1.later hwq, hS.2.later hwq⟩ : Far g wr wq ∧ Pks wq g A n cA bs)
   (try simp only [Act.put, List.setIfInBounds_toArray, List.set_cons_zero, List.set_cons_succ])
   clear hwq
   refine wpAnyK_all (rs := [9]) (by kernel_rfl) (by simp) (fun i hi => ?_)
   simp only [List.mem_cons, List.not_mem_nil, or_false] at hi
   subst hi
   refine stepK (o := { dst := some 259, op := _, type := _, pos := _, after := _, guard := _ }) rfl (fun K hK => ?_)
   go_simp
   refine (HRW.out _ hS.1 hS.2).mono ?_
   rintro e w20 ⟨row2, R2, rc2, rfl, hrl, hfr, ho2, _, hp2, hf2⟩
   obtain ⟨gr, rfl⟩ := own_some ho2 (by have := HN2.out; omega)
   have hr2 : Has w20 (some ⟨gr, 0, none⟩) (fl row2) := Has.ownG ho2
   have hFT := fit_made hrl (fun x hx => (HMAY.out.col x hx).2.2) hfr
   have HRL := Lib.hid hrl
   have HFT := Lib.hid hFT
   clear hrl hfr hFT
   have hS : Far g wr w20 ∧ Pks w20 g A n cA bs := ⟨hS.1.trans hf2, hp2⟩
   refine hK _ _ hS fun w21 hw21 => ?_
   have hS : Far g wr w21 ∧ Pks w21 g A n cA bs := ⟨hS.1.later hw21, hS.2.later hw21⟩
   replace hr2 := hr2.later hw21
   clear hK hw21 ho2 hp2 hf2
   (try simp only [Act.put, List.setIfInBounds_toArray, List.set_cons_zero, List.set_cons_succ])
   refine wpAnyK_all (rs := [10]) (by kernel_rfl) (by simp) (fun i hi => ?_)
   simp only [List.mem_cons, List.not_mem_nil, or_false] at hi
   subst hi
   refine stepK (o := { dst := some 260, op := _, type := _, pos := _, after := _, guard := _ }) rfl (fun K hK => ?_)
   go_simp
   refine ((schFits_any (some ⟨gv, 0, none⟩) (some ⟨gr, 0, none⟩) n2 vc2 row2.length rc2 (n2 : Int) cols row2 w21 (H3.out.later (far_later HL10.out hS.1 HG5.out)) HN2.out.1.symm rfl (by have := HN2.out; omega) (by have := HRL.out; have := HN2.out; omega) (Has.far HV10.out hS.1 HNE.out.1) hr2).mono fun e w' h => TellsP.yes HFT.out h).mono ?_
   rintro e w22 ⟨rfl, l22⟩
   have hS : Far g wr w22 ∧ Pks w22 g A n cA bs := ⟨hS.1.later l22, hS.2.later l22⟩
   refine hK _ _ hS fun wq hwq => ?_
   replace hS := (⟨hS.1.later hwq, hS.2.later hwq⟩ : Far g wr wq ∧ Pks wq g A n cA bs)
   clear hK hwq l22
   (try simp only [Act.put, List.setIfInBounds_toArray, List.set_cons_zero, List.set_cons_succ])
   refine wpAnyK_take Later.refl (fun _ _ _ h k => h.trans k) (fun _ _ h k => ⟨h.1.later k, h.2.later k⟩) (i := 11) (oi := { dst := some 261, op := _, type := _, pos := _, after := _, guard := _ }) (v := ?_) rfl (by kernel_rfl) (by kernel_rfl) (by kernel_rfl) (fun _ _ _ h => h) (Or.inl (Or.inl ⟨by rfl, ?_⟩)) hS ?_
   rotate_left
   focus ((intro w hSw; (try dsimp only at hSw); skip; go_simp); (try with_reducible rfl))
   intro wq hwq
   replace hS := (⟨hS.1.later hwq, hS.2.later hwq⟩ : Far g wr wq ∧ Pks wq g A n cA bs)
   (try simp only [Act.put, List.setIfInBounds_toArray, List.set_cons_zero, List.set_cons_succ])
   clear hwq
   refine wpAnyK_take Later.refl (fun _ _ _ h k => h.trans k) (fun _ _ h k => ⟨h.1.later k, h.2.later k⟩) (i := 12) (oi := { dst := some 14, op := _, type := _, pos := _, after := _, guard := _ }) (v := ?_) rfl (by kernel_rfl) (by kernel_rfl) (by kernel_rfl) (fun _ _ _ h => h) (Or.inl (Or.inl ⟨by rfl, ?_⟩)) hS ?_
   rotate_left
   focus ((intro w hSw; (try dsimp only at hSw); skip; go_simp); (try with_reducible rfl))
   intro wq hwq
   replace hS := (⟨hS.1.later hwq, hS.2.later hwq⟩ : Far g wr wq ∧ Pks wq g A n cA bs)
   (try simp only [Act.put, List.setIfInBounds_toArray, List.set_cons_zero, List.set_cons_succ])
   clear hwq
   refine wpAnyK_done (by kernel_rfl) ?_ _
   go_wp2_with fail
   go_ret
   exact ⟨by simp, HL.out.trans (far_later HL10.out hS.1 HG5.out)⟩
  have hii : (k : Int) < 4 := by omega
  have HRK := Lib.hid ((HRI.out k hlt).later HLT.out)
  generalize byE V (some ⟨gv, 0, none⟩) k = V1 at HRK
  generalize byE vc vc2 k = vc1 at HRK
  generalize byE E (some ⟨ge, 0, none⟩) k = E1 at HRK
  generalize byE ec ec2 k = ec1 at HRK
  generalize byE (xs, last, (⟨sb, pb, parts, es⟩ : Lay4)) (cols, (n2 : Int), ⟨d0, d1, d2, es2⟩) k = s1 at HRK
  generalize byT ch dh k = c1 at HRK
  have HAP := Lib.hid (fun (W : World) (l : Later wr W) => show Calls Tryd.prog 14 #[.agg #[.slice V1 s1.1.length vc1, .int .i64 s1.2.1], .agg #[.int .i64 s1.2.2.sb, .int .i64 s1.2.2.pb, .int .i64 s1.2.2.parts, .slice E1 s1.2.2.enc.length ec1], .agg #[.int .i64 c1.kind, .int .i64 c1.col, .string c1.name, .int .i64 c1.typ, .int .i64 c1.val.1, .int .i64 c1.val.2.1, .string c1.val.2.2, .int .u8 c1.sep, .int .i64 c1.num]] W (ApP s1 c1 W) from schApply_any V1 E1 vc1 ec1 s1 c1 W f (HS9.out.later (HLT.out.trans l)) (H39.out.later (HLT.out.trans l)) (HRK.out.hv.later l) (HRK.out.he.later l) (by have := HRK.out.ln; omega) (by have := HRK.out.ln; omega) HRK.out.nm HRK.out.cn HRK.out.vn HRK.out.en)
  go_upto_region 12 with fail
  go_cut [23, 24, 25] from 94 to 115 (fun pv qv ev wx => ResP s1 c1 wr pv qv ev wx)
  case first => as_aux_lemma =>
   refine wp_region_K (S := (fun W : World => Later wr W)) (R := fun a b => a = b) (fun _ => rfl) (by kernel_rfl) ?_
   obtain ⟨y0, hy0⟩ : ∃ x, wr.drew = x := ⟨_, rfl⟩
   have hS : (fun W : World => Later wr W) y0 := hy0 ▸ (Later.refl wr).drew
   rw [hy0]
   clear hy0
   refine wpAnyK_take (fun _ => rfl) (fun _ _ _ h k => h.trans k) (fun _ _ h k => k ▸ h) (i := 0) (oi := { dst := some 99, op := _, type := _, pos := _, after := _, guard := _ }) (v := ?_) rfl (by kernel_rfl) (by kernel_rfl) (by kernel_rfl) (fun _ _ _ h => h) (Or.inl (Or.inl ⟨by rfl, ?_⟩)) hS ?_
   rotate_left
   focus ((intro w hSw; (try dsimp only at hSw); have hx := HRK.out.later hSw; have q0 := hx.a0; have q1 := hx.a1; have p0 := hx.b0; have p1 := hx.b1; have p2 := hx.b2; have p3 := hx.b3; have c0 := hx.c0; have c1_ := hx.c1; have c2 := hx.c2; have c3 := hx.c3; have c4 := hx.c4; have c5 := hx.c5; have c6 := hx.c6; have c7 := hx.c7; have c8 := hx.c8; go_simp); (try with_reducible rfl))
   intro wq hwq
   subst hwq
   (try simp only [Act.put, List.setIfInBounds_toArray, List.set_cons_zero, List.set_cons_succ])
   refine wpAnyK_take (fun _ => rfl) (fun _ _ _ h k => h.trans k) (fun _ _ h k => k ▸ h) (i := 1) (oi := { dst := some 100, op := _, type := _, pos := _, after := _, guard := _ }) (v := ?_) rfl (by kernel_rfl) (by kernel_rfl) (by kernel_rfl) (fun _ _ _ h => h) (Or.inl (Or.inl ⟨by rfl, ?_⟩)) hS ?_
   rotate_left
   focus ((intro w hSw; (try dsimp only at hSw); have hx := HRK.out.later hSw; have q0 := hx.a0; have q1 := hx.a1; have p0 := hx.b0; have p1 := hx.b1; have p2 := hx.b2; have p3 := hx.b3; have c0 := hx.c0; have c1_ := hx.c1; have c2 := hx.c2; have c3 := hx.c3; have c4 := hx.c4; have c5 := hx.c5; have c6 := hx.c6; have c7 := hx.c7; have c8 := hx.c8; go_simp); (try with_reducible rfl))
   intro wq hwq
   subst hwq
   (try simp only [Act.put, List.setIfInBounds_toArray, List.set_cons_zero, List.set_cons_succ])
   refine wpAnyK_take (fun _ => rfl) (fun _ _ _ h k => h.trans k) (fun _ _ h k => k ▸ h) (i := 2) (oi := { dst := some 101, op := _, type := _, pos := _, after := _, guard := _ }) (v := ?_) rfl (by kernel_rfl) (by kernel_rfl) (by kernel_rfl) (fun _ _ _ h => h) (Or.inl (Or.inl ⟨by rfl, ?_⟩)) hS ?_
   rotate_left
   focus ((intro w hSw; (try dsimp only at hSw); have hx := HRK.out.later hSw; have q0 := hx.a0; have q1 := hx.a1; have p0 := hx.b0; have p1 := hx.b1; have p2 := hx.b2; have p3 := hx.b3; have c0 := hx.c0; have c1_ := hx.c1; have c2 := hx.c2; have c3 := hx.c3; have c4 := hx.c4; have c5 := hx.c5; have c6 := hx.c6; have c7 := hx.c7; have c8 := hx.c8; go_simp); (try with_reducible rfl))
   intro wq hwq
   subst hwq
   (try simp only [Act.put, List.setIfInBounds_toArray, List.set_cons_zero, List.set_cons_succ])
   refine wpAnyK_take (fun _ => rfl) (fun _ _ _ h k => h.trans k) (fun _ _ h k => k ▸ h) (i := 3) (oi := { dst := some 102, op := _, type := _, pos := _, after := _, guard := _ }) (v := ?_) rfl (by kernel_rfl) (by kernel_rfl) (by kernel_rfl) (fun _ _ _ h => h) (Or.inl (Or.inl ⟨by rfl, ?_⟩)) hS ?_
   rotate_left
   focus ((intro w hSw; (try dsimp only at hSw); have hx := HRK.out.later hSw; have q0 := hx.a0; have q1 := hx.a1; have p0 := hx.b0; have p1 := hx.b1; have p2 := hx.b2; have p3 := hx.b3; have c0 := hx.c0; have c1_ := hx.c1; have c2 := hx.c2; have c3 := hx.c3; have c4 := hx.c4; have c5 := hx.c5; have c6 := hx.c6; have c7 := hx.c7; have c8 := hx.c8; go_simp); (try with_reducible rfl))
   intro wq hwq
   subst hwq
   (try simp only [Act.put, List.setIfInBounds_toArray, List.set_cons_zero, List.set_cons_succ])
   refine wpAnyK_take (fun _ => rfl) (fun _ _ _ h k => h.trans k) (fun _ _ h k => k ▸ h) (i := 4) (oi := { dst := some 103, op := _, type := _, pos := _, after := _, guard := _ }) (v := ?_) rfl (by kernel_rfl) (by kernel_rfl) (by kernel_rfl) (fun _ _ _ h => h) (Or.inl (Or.inl ⟨by rfl, ?_⟩)) hS ?_
   rotate_left
   focus ((intro w hSw; (try dsimp only at hSw); have hx := HRK.out.later hSw; have q0 := hx.a0; have q1 := hx.a1; have p0 := hx.b0; have p1 := hx.b1; have p2 := hx.b2; have p3 := hx.b3; have c0 := hx.c0; have c1_ := hx.c1; have c2 := hx.c2; have c3 := hx.c3; have c4 := hx.c4; have c5 := hx.c5; have c6 := hx.c6; have c7 := hx.c7; have c8 := hx.c8; go_simp); (try with_reducible rfl))
   intro wq hwq
   subst hwq
   (try simp only [Act.put, List.setIfInBounds_toArray, List.set_cons_zero, List.set_cons_succ])
   refine wpAnyK_take (fun _ => rfl) (fun _ _ _ h k => h.trans k) (fun _ _ h k => k ▸ h) (i := 5) (oi := { dst := some 104, op := _, type := _, pos := _, after := _, guard := _ }) (v := ?_) rfl (by kernel_rfl) (by kernel_rfl) (by kernel_rfl) (fun _ _ _ h => h) (Or.inl (Or.inl ⟨by rfl, ?_⟩)) hS ?_
   rotate_left
   focus ((intro w hSw; (try dsimp only at hSw); have hx := HRK.out.later hSw; have q0 := hx.a0; have q1 := hx.a1; have p0 := hx.b0; have p1 := hx.b1; have p2 := hx.b2; have p3 := hx.b3; have c0 := hx.c0; have c1_ := hx.c1; have c2 := hx.c2; have c3 := hx.c3; have c4 := hx.c4; have c5 := hx.c5; have c6 := hx.c6; have c7 := hx.c7; have c8 := hx.c8; go_simp); (try with_reducible rfl))
   intro wq hwq
   subst hwq
   (try simp only [Act.put, List.setIfInBounds_toArray, List.set_cons_zero, List.set_cons_succ])
   refine wpAnyK_take (fun _ => rfl) (fun _ _ _ h k => h.trans k) (fun _ _ h k => k ▸ h) (i := 6) (oi := { dst := some 105, op := _, type := _, pos := _, after := _, guard := _ }) (v := ?_) rfl (by kernel_rfl) (by kernel_rfl) (by kernel_rfl) (fun _ _ _ h => h) (Or.inl (Or.inl ⟨by rfl, ?_⟩)) hS ?_
   rotate_left
   focus ((intro w hSw; (try dsimp only at hSw); have hx := HRK.out.later hSw; have q0 := hx.a0; have q1 := hx.a1; have p0 := hx.b0; have p1 := hx.b1; have p2 := hx.b2; have p3 := hx.b3; have c0 := hx.c0; have c1_ := hx.c1; have c2 := hx.c2; have c3 := hx.c3; have c4 := hx.c4; have c5 := hx.c5; have c6 := hx.c6; have c7 := hx.c7; have c8 := hx.c8; go_simp); (try with_reducible rfl))
   intro wq hwq
   subst hwq
   (try simp only [Act.put, List.setIfInBounds_toArray, List.set_cons_zero, List.set_cons_succ])
   refine wpAnyK_take (fun _ => rfl) (fun _ _ _ h k => h.trans k) (fun _ _ h k => k ▸ h) (i := 7) (oi := { dst := some 106, op := _, type := _, pos := _, after := _, guard := _ }) (v := ?_) rfl (by kernel_rfl) (by kernel_rfl) (by kernel_rfl) (fun _ _ _ h => h) (Or.inl (Or.inl ⟨by rfl, ?_⟩)) hS ?_
   rotate_left
   focus ((intro w hSw; (try dsimp only at hSw); have hx := HRK.out.later hSw; have q0 := hx.a0; have q1 := hx.a1; have p0 := hx.b0; have p1 := hx.b1; have p2 := hx.b2; have p3 := hx.b3; have c0 := hx.c0; have c1_ := hx.c1; have c2 := hx.c2; have c3 := hx.c3; have c4 := hx.c4; have c5 := hx.c5; have c6 := hx.c6; have c7 := hx.c7; have c8 := hx.c8; go_simp); (try with_reducible rfl))
   intro wq hwq
   subst hwq
   (try simp only [Act.put, List.setIfInBounds_toArray, List.set_cons_zero, List.set_cons_succ])
   refine wpAnyK_take (fun _ => rfl) (fun _ _ _ h k => h.trans k) (fun _ _ h k => k ▸ h) (i := 8) (oi := { dst := some 107, op := _, type := _, pos := _, after := _, guard := _ }) (v := ?_) rfl (by kernel_rfl) (by kernel_rfl) (by kernel_rfl) (fun _ _ _ h => h) (Or.inl (Or.inl ⟨by rfl, ?_⟩)) hS ?_
   rotate_left
   focus ((intro w hSw; (try dsimp only at hSw); have hx := HRK.out.later hSw; have q0 := hx.a0; have q1 := hx.a1; have p0 := hx.b0; have p1 := hx.b1; have p2 := hx.b2; have p3 := hx.b3; have c0 := hx.c0; have c1_ := hx.c1; have c2 := hx.c2; have c3 := hx.c3; have c4 := hx.c4; have c5 := hx.c5; have c6 := hx.c6; have c7 := hx.c7; have c8 := hx.c8; go_simp); (try with_reducible rfl))
   intro wq hwq
   subst hwq
   (try simp only [Act.put, List.setIfInBounds_toArray, List.set_cons_zero, List.set_cons_succ])
   refine wpAnyK_take (fun _ => rfl) (fun _ _ _ h k => h.trans k) (fun _ _ h k => k ▸ h) (i := 9) (oi := { dst := some 108, op := _, type := _, pos := _, after := _, guard := _ }) (v := ?_) rfl (by kernel_rfl) (by kernel_rfl) (by kernel_rfl) (fun _ _ _ h => h) (Or.inl (Or.inl ⟨by rfl, ?_⟩)) hS ?_
   rotate_left
   focus ((intro w hSw; (try dsimp only at hSw); have hx := HRK.out.later hSw; have q0 := hx.a0; have q1 := hx.a1; have p0 := hx.b0; have p1 := hx.b1; have p2 := hx.b2; have p3 := hx.b3; have c0 := hx.c0; have c1_ := hx.c1; have c2 := hx.c2; have c3 := hx.c3; have c4 := hx.c4; have c5 := hx.c5; have c6 := hx.c6; have c7 := hx.c7; have c8 := hx.c8; go_simp); (try with_reducible rfl))
   intro wq hwq
   subst hwq
   (try simp only [Act.put, List.setIfInBounds_toArray, List.set_cons_zero, List.set_cons_succ])
   refine wpAnyK_take (fun _ => rfl) (fun _ _ _ h k => h.trans k) (fun _ _ h k => k ▸ h) (i := 10) (oi := { dst := some 109, op := _, type := _, pos := _, after := _, guard := _ }) (v := ?_) rfl (by kernel_rfl) (by kernel_rfl) (by kernel_rfl) (fun _ _ _ h => h) (Or.inl (Or.inl ⟨by rfl, ?_⟩)) hS ?_
   rotate_left
   focus ((intro w hSw; (try dsimp only at hSw); have hx := HRK.out.later hSw; have q0 := hx.a0; have q1 := hx.a1; have p0 := hx.b0; have p1 := hx.b1; have p2 := hx.b2; have p3 := hx.b3; have c0 := hx.c0; have c1_ := hx.c1; have c2 := hx.c2; have c3 := hx.c3; have c4 := hx.c4; have c5 := hx.c5; have c6 := hx.c6; have c7 := hx.c7; have c8 := hx.c8; go_simp); (try with_reducible rfl))
   intro wq hwq
   subst hwq
   (try simp only [Act.put, List.setIfInBounds_toArray, List.set_cons_zero, List.set_cons_succ])
   refine wpAnyK_take (fun _ => rfl) (fun _ _ _ h k => h.trans k) (fun _ _ h k => k ▸ h) (i := 11) (oi := { dst := some 110, op := _, type := _, pos := _, after := _, guard := _ }) (v := ?_) rfl (by kernel_rfl) (by kernel_rfl) (by kernel_rfl) (fun _ _ _ h => h) (Or.inl (Or.inl ⟨by rfl, ?_⟩)) hS ?_
   rotate_left
   focus ((intro w hSw; (try dsimp only at hSw); have hx := HRK.out.later hSw; have q0 := hx.a0; have q1 := hx.a1; have p0 := hx.b0; have p1 := hx.b1; have p2 := hx.b2; have p3 := hx.b3; have c0 := hx.c0; have c1_ := hx.c1; have c2 := hx.c2; have c3 := hx.c3; have c4 := hx.c4; have c5 := hx.c5; have c6 := hx.c6; have c7 := hx.c7; have c8 := hx.c8; go_simp); (try with_reducible rfl))
   intro wq hwq
   subst hwq
   (try simp only [Act.put, List.setIfInBounds_toArray, List.set_cons_zero, List.set_cons_succ])
   refine wpAnyK_all (rs := [12, 17, 18]) (by kernel_rfl) (by simp) (fun i hi => ?_)
   simp only [List.mem_cons, List.not_mem_nil, or_false] at hi
   rcases hi with rfl | rfl | rfl
   ·refine stepK (o := { dst := some 111, op := _, type := _, pos := _, after := _, guard := _ }) rfl (fun K hK => ?_)
    go_simp
    refine (HAP.out _ hS).mono ?_
    intro e y1 hap
    obtain ⟨VA, vn, vcp, vlast, vsb, vpb, vparts, VE, ven, vec, vev, rfl, hv, lc⟩ := hap.v (Later.size hS)
    have HV := Lib.hid hv
    replace hS : (fun W : World => Later wr W) y1 := Later.trans hS lc
    refine hK _ _ hS fun wq hwq => ?_
    subst hwq
    clear hK hap hv lc
    (try simp only [Act.put, List.setIfInBounds_toArray, List.set_cons_zero, List.set_cons_succ])
    refine wpAnyK_take (fun _ => rfl) (fun _ _ _ h k => h.trans k) (fun _ _ h k => k ▸ h) (i := 13) (oi := { dst := some 98, op := _, type := _, pos := _, after := _, guard := _ }) (v := ?_) rfl (by kernel_rfl) (by kernel_rfl) (by kernel_rfl) (fun _ _ _ h => h) (Or.inl (Or.inl ⟨by rfl, ?_⟩)) hS ?_
    rotate_left
    focus ((intro w hSw; (try dsimp only at hSw); skip; go_simp); (try with_reducible rfl))
    intro wq hwq
    subst hwq
    (try simp only [Act.put, List.setIfInBounds_toArray, List.set_cons_zero, List.set_cons_succ])
    refine wpAnyK_take (fun _ => rfl) (fun _ _ _ h k => h.trans k) (fun _ _ h k => k ▸ h) (i := 14) (oi := { dst := some 112, op := _, type := _, pos := _, after := _, guard := _ }) (v := ?_) rfl (by kernel_rfl) (by kernel_rfl) (by kernel_rfl) (fun _ _ _ h => h) (Or.inl (Or.inl ⟨by rfl, ?_⟩)) hS ?_
    rotate_left
    focus ((intro w hSw; (try dsimp only at hSw); skip; go_simp); (try with_reducible rfl))
    intro wq hwq
    subst hwq
    (try simp only [Act.put, List.setIfInBounds_toArray, List.set_cons_zero, List.set_cons_succ])
    refine wpAnyK_take (fun _ => rfl) (fun _ _ _ h k => h.trans k) (fun _ _ h k => k ▸ h) (i := 15) (oi := { dst := some 113, op := _, type := _, pos := _, after := _, guard := _ }) (v := ?_) rfl (by kernel_rfl) (by kernel_rfl) (by kernel_rfl) (fun _ _ _ h => h) (Or.inl (Or.inl ⟨by rfl, ?_⟩)) hS ?_
    rotate_left
    focus ((intro w hSw; (try dsimp only at hSw); skip; go_simp); (try with_reducible rfl))
    intro wq hwq
    subst hwq
    (try simp only [Act.put, List.setIfInBounds_toArray, List.set_cons_zero, List.set_cons_succ])
    refine wpAnyK_take (fun _ => rfl) (fun _ _ _ h k => h.trans k) (fun _ _ h k => k ▸ h) (i := 16) (oi := { dst := some 114, op := _, type := _, pos := _, after := _, guard := _ }) (v := ?_) rfl (by kernel_rfl) (by kernel_rfl) (by kernel_rfl) (fun _ _ _ h => h) (Or.inl (Or.inl ⟨by rfl, ?_⟩)) hS ?_
    rotate_left
    focus ((intro w hSw; (try dsimp only at hSw); skip; go_simp); (try with_reducible rfl))
    intro wq hwq
    subst hwq
    (try simp only [Act.put, List.setIfInBounds_toArray, List.set_cons_zero, List.set_cons_succ])
    refine wpAnyK_all (rs := [17, 18]) (by kernel_rfl) (by simp) (fun i hi => ?_)
    simp only [List.mem_cons, List.not_mem_nil, or_false] at hi
    rcases hi with rfl | rfl
    ·refine stepK (o := { dst := some 23, op := _, type := _, pos := _, after := _, guard := _ }) rfl (fun K hK => ?_)
     go_simp
     obtain ⟨ga, hgg⟩ : ∃ x, y1.heap.size = x := ⟨_, rfl⟩
     obtain ⟨y2, hyy⟩ : ∃ x, y1.alloc (.cells zS.toArray 24) = x := ⟨_, rfl⟩
     have lc : Later y1 y2 := hyy ▸ Later.new _ _
     have HA := Lib.hid (show Blk y2 ga zS.toArray 24 from hyy ▸ Blk.new _ _ _ _ hgg.symm)
     have HGA := Lib.hid (show wr.heap.size ≤ ga from hgg ▸ Later.size hS)
     replace hS : (fun W : World => Later wr W) y2 := Later.trans hS lc
     have HV := Lib.hid (HV.out.later lc)
     try rw [hgg]
     unfold zS at hyy
     rw [hyy]
     refine hK _ _ hS fun wq hwq => ?_
     subst hwq
     clear hK lc hyy hgg
     (try simp only [Act.put, List.setIfInBounds_toArray, List.set_cons_zero, List.set_cons_succ])
     refine wpAnyK_all (rs := [18]) (by kernel_rfl) (by simp) (fun i hi => ?_)
     simp only [List.mem_cons, List.not_mem_nil, or_false] at hi
     subst hi
     refine stepK (o := { dst := some 24, op := _, type := _, pos := _, after := _, guard := _ }) rfl (fun K hK => ?_)
     go_simp
     obtain ⟨gb, hgg⟩ : ∃ x, y2.heap.size = x := ⟨_, rfl⟩
     obtain ⟨y3, hyy⟩ : ∃ x, y2.alloc (.cells zL.toArray 27) = x := ⟨_, rfl⟩
     have lc : Later y2 y3 := hyy ▸ Later.new _ _
     have HB := Lib.hid (show Blk y3 gb zL.toArray 27 from hyy ▸ Blk.new _ _ _ _ hgg.symm)
     have HGB := Lib.hid (show wr.heap.size ≤ gb from hgg ▸ Later.size hS)
     replace hS : (fun W : World => Later wr W) y3 := Later.trans hS lc
     have HV := Lib.hid (HV.out.later lc)
     have HA := Lib.hid (HA.out.later lc)
     try rw [hgg]
     unfold zL at hyy
     rw [hyy]
     refine hK _ _ hS fun wq hwq => ?_
     subst hwq
     clear hK lc hyy hgg
     (try simp only [Act.put, List.setIfInBounds_toArray, List.set_cons_zero, List.set_cons_succ])
     have hab : ga ≠ gb := ne_typ HA.out HB.out (by decide)
     refine wpAnyK_all (rs := [19]) (by kernel_rfl) (by simp) (fun i hi => ?_)
     simp only [List.mem_cons, List.not_mem_nil, or_false] at hi
     subst hi
     refine stepK (o := { dst := none, op := _, type := _, pos := _, after := _, guard := _ }) rfl (fun K hK => ?_)
     rw [if_pos (by rfl)]
     refine wp_store_mid 24 _ _ rfl ga 0 #[.slice VA vn vcp, .int .i64 vlast] rfl rfl (fun j hj => by rw [Nat.zero_add]; have hj2 : j < 2 := hj; exact ⟨by rw [cell_of_row y3 ga j _ _ _ HA.out, Array.getElem?_eq_getElem (by exact hj2)]; rfl, HA.out.frozen j⟩) (by kernel_rfl) (by simp [Value.oneCell']) ?_
     have hA2 := Blk.fill zS [.slice VA vn vcp, .int .i64 vlast] HA.out rfl
     have hB2 := HB.out.aside hab.symm 0 [.slice VA vn vcp, .int .i64 vlast]
     have hV2 := HV.out.fill HA.out (by decide) (by decide) 0 [.slice VA vn vcp, .int .i64 vlast]
     have hS : (fun W : World => Later wr W) (y3.setCells ga 0 [.slice VA vn vcp, .int .i64 vlast]) := Later.fill hS HGA.out 0 _
     refine hK _ _ hS fun wq hwq => ?_
     obtain ⟨z1, hz1⟩ : ∃ x, y3.setCells ga 0 [.slice VA vn vcp, .int .i64 vlast] = x := ⟨_, rfl⟩
     rw [hz1] at hA2 hB2 hV2 hS
     have hz2 : z1 = wq := hz1.symm.trans hwq
     subst hz2
     clear hK hwq hz1
     (try simp only [Act.put])
     refine wpAnyK_all (rs := [20]) (by kernel_rfl) (by simp) (fun i hi => ?_)
     simp only [List.mem_cons, List.not_mem_nil, or_false] at hi
     subst hi
     refine stepK (o := { dst := none, op := _, type := _, pos := _, after := _, guard := _ }) rfl (fun K hK => ?_)
     rw [if_pos (by rfl)]
     refine wp_store_mid 27 _ _ rfl gb 0 #[.int .i64 vsb, .int .i64 vpb, .int .i64 vparts, .slice VE ven vec] rfl rfl (fun j hj => by rw [Nat.zero_add]; have hj2 : j < 4 := hj; exact ⟨by rw [cell_of_row z1 gb j _ _ _ hB2, Array.getElem?_eq_getElem (by exact hj2)]; rfl, hB2.frozen j⟩) (by kernel_rfl) (by simp [Value.oneCell']) ?_
     have hB3 := Blk.fill zL [.int .i64 vsb, .int .i64 vpb, .int .i64 vparts, .slice VE ven vec] hB2 rfl
     have hA3 := hA2.aside hab 0 [.int .i64 vsb, .int .i64 vpb, .int .i64 vparts, .slice VE ven vec]
     have hV3 := hV2.fill hB2 (by decide) (by decide) 0 [.int .i64 vsb, .int .i64 vpb, .int .i64 vparts, .slice VE ven vec]
     have hS : (fun W : World => Later wr W) (z1.setCells gb 0 [.int .i64 vsb, .int .i64 vpb, .int .i64 vparts, .slice VE ven vec]) := Later.fill hS HGB.out 0 _
     refine hK _ _ hS fun wq hwq => ?_
     obtain ⟨z2, hz1⟩ : ∃ x, z1.setCells gb 0 [.int .i64 vsb, .int .i64 vpb, .int .i64 vparts, .slice VE ven vec] = x := ⟨_, rfl⟩
     rw [hz1] at hA3 hB3 hV3 hS
     have hz2 : z2 = wq := hz1.symm.trans hwq
     subst hz2
     clear hK hwq hz1 hA2 hB2 hV2
     (try simp only [Act.put])
     refine wpAnyK_take (fun _ => rfl) (fun _ _ _ h k => h.trans k) (fun _ _ h k => k ▸ h) (i := 21) (oi := { dst := some 25, op := _, type := _, pos := _, after := _, guard := _ }) (v := ?_) rfl (by kernel_rfl) (by kernel_rfl) (by kernel_rfl) (fun _ _ _ h => h) (Or.inl (Or.inl ⟨by rfl, ?_⟩)) hS ?_
     rotate_left
     focus ((intro w hSw; (try dsimp only at hSw); skip; go_simp); (try with_reducible rfl))
     intro wq hwq
     subst hwq
     (try simp only [Act.put, List.setIfInBounds_toArray, List.set_cons_zero, List.set_cons_succ])
     refine wpAnyK_done (by kernel_rfl) ?_ _
     go_wp2_with fail
     go_meet
     exact ⟨ga, gb, VA, vn, vcp, vlast, vsb, vpb, vparts, VE, ven, vec, vev, rfl, rfl, rfl, hV3, hA3, hB3, hab, HGA.out, HGB.out, hS⟩
    ·refine stepK (o := { dst := some 24, op := _, type := _, pos := _, after := _, guard := _ }) rfl (fun K hK => ?_)
     go_simp
     obtain ⟨gb, hgg⟩ : ∃ x, y1.heap.size = x := ⟨_, rfl⟩
     obtain ⟨y2, hyy⟩ : ∃ x, y1.alloc (.cells zL.toArray 27) = x := ⟨_, rfl⟩
     have lc : Later y1 y2 := hyy ▸ Later.new _ _
     have HB := Lib.hid (show Blk y2 gb zL.toArray 27 from hyy ▸ Blk.new _ _ _ _ hgg.symm)
     have HGB := Lib.hid (show wr.heap.size ≤ gb from hgg ▸ Later.size hS)
     replace hS : (fun W : World => Later wr W) y2 := Later.trans hS lc
     have HV := Lib.hid (HV.out.later lc)
     try rw [hgg]
     unfold zL at hyy
     rw [hyy]
     refine hK _ _ hS fun wq hwq => ?_
     subst hwq
     clear hK lc hyy hgg
     (try simp only [Act.put, List.setIfInBounds_toArray, List.set_cons_zero, List.set_cons_succ])
     refine wpAnyK_all (rs := [17]) (by kernel_rfl) (by simp) (fun i hi => ?_)
     simp only [List.mem_cons, List.not_mem_nil, or_false] at hi
     subst hi
     refine stepK (o := { dst := some 23, op := _, type := _, pos := _, after := _, guard := _ }) rfl (fun K hK => ?_)
     go_simp
     obtain ⟨ga, hgg⟩ : ∃ x, y2.heap.size = x := ⟨_, rfl⟩
     obtain ⟨y3, hyy⟩ : ∃ x, y2.alloc (.cells zS.toArray 24) = x := ⟨_, rfl⟩
     have lc : Later y2 y3 := hyy ▸ Later.new _ _
     have HA := Lib.hid (show Blk y3 ga zS.toArray 24 from hyy ▸ Blk.new _ _ _ _ hgg.symm)
     have HGA := Lib.hid (show wr.heap.size ≤ ga from hgg ▸ Later.size hS)
     replace hS : (fun W : World => Later wr W) y3 := Later.trans hS lc
     have HV := Lib.hid (HV.out.later lc)
     have HB := Lib.hid (HB.out.later lc)
     try rw [hgg]
     unfold zS at hyy
     rw [hyy]
     refine hK _ _ hS fun wq hwq => ?_
     subst hwq
     clear hK lc hyy hgg
     (try simp only [Act.put, List.setIfInBounds_toArray, List.set_cons_zero, List.set_cons_succ])
     have hab : ga ≠ gb := ne_typ HA.out HB.out (by decide)
     refine wpAnyK_all (rs := [19]) (by kernel_rfl) (by simp) (fun i hi => ?_)
     simp only [List.mem_cons, List.not_mem_nil, or_false] at hi
     subst hi
     refine stepK (o := { dst := none, op := _, type := _, pos := _, after := _, guard := _ }) rfl (fun K hK => ?_)
     rw [if_pos (by rfl)]
     refine wp_store_mid 24 _ _ rfl ga 0 #[.slice VA vn vcp, .int .i64 vlast] rfl rfl (fun j hj => by rw [Nat.zero_add]; have hj2 : j < 2 := hj; exact ⟨by rw [cell_of_row y3 ga j _ _ _ HA.out, Array.getElem?_eq_getElem (by exact hj2)]; rfl, HA.out.frozen j⟩) (by kernel_rfl) (by simp [Value.oneCell']) ?_
     have hA2 := Blk.fill zS [.slice VA vn vcp, .int .i64 vlast] HA.out rfl
     have hB2 := HB.out.aside hab.symm 0 [.slice VA vn vcp, .int .i64 vlast]
     have hV2 := HV.out.fill HA.out (by decide) (by decide) 0 [.slice VA vn vcp, .int .i64 vlast]
     have hS : (fun W : World => Later wr W) (y3.setCells ga 0 [.slice VA vn vcp, .int .i64 vlast]) := Later.fill hS HGA.out 0 _
     refine hK _ _ hS fun wq hwq => ?_
     obtain ⟨z1, hz1⟩ : ∃ x, y3.setCells ga 0 [.slice VA vn vcp, .int .i64 vlast] = x := ⟨_, rfl⟩
     rw [hz1] at hA2 hB2 hV2 hS
     have hz2 : z1 = wq := hz1.symm.trans hwq
     subst hz2
     clear hK hwq hz1
     (try simp only [Act.put])
     refine wpAnyK_all (rs := [20]) (by kernel_rfl) (by simp) (fun i hi => ?_)
     simp only [List.mem_cons, List.not_mem_nil, or_false] at hi
     subst hi
     refine stepK (o := { dst := none, op := _, type := _, pos := _, after := _, guard := _ }) rfl (fun K hK => ?_)
     rw [if_pos (by rfl)]
     refine wp_store_mid 27 _ _ rfl gb 0 #[.int .i64 vsb, .int .i64 vpb, .int .i64 vparts, .slice VE ven vec] rfl rfl (fun j hj => by rw [Nat.zero_add]; have hj2 : j < 4 := hj; exact ⟨by rw [cell_of_row z1 gb j _ _ _ hB2, Array.getElem?_eq_getElem (by exact hj2)]; rfl, hB2.frozen j⟩) (by kernel_rfl) (by simp [Value.oneCell']) ?_
     have hB3 := Blk.fill zL [.int .i64 vsb, .int .i64 vpb, .int .i64 vparts, .slice VE ven vec] hB2 rfl
     have hA3 := hA2.aside hab 0 [.int .i64 vsb, .int .i64 vpb, .int .i64 vparts, .slice VE ven vec]
     have hV3 := hV2.fill hB2 (by decide) (by decide) 0 [.int .i64 vsb, .int .i64 vpb, .int .i64 vparts, .slice VE ven vec]
     have hS : (fun W : World => Later wr W) (z1.setCells gb 0 [.int .i64 vsb, .int .i64 vpb, .int .i64 vparts, .slice VE ven vec]) := Later.fill hS HGB.out 0 _
     refine hK _ _ hS fun wq hwq => ?_
     obtain ⟨z2, hz1⟩ : ∃ x, z1.setCells gb 0 [.int .i64 vsb, .int .i64 vpb, .int .i64 vparts, .slice VE ven vec] = x := ⟨_, rfl⟩
     rw [hz1] at hA3 hB3 hV3 hS
     have hz2 : z2 = wq := hz1.symm.trans hwq
     subst hz2
     clear hK hwq hz1 hA2 hB2 hV2
     (try simp only [Act.put])
     refine wpAnyK_take (fun _ => rfl) (fun _ _ _ h k => h.trans k) (fun _ _ h k => k ▸ h) (i := 21) (oi := { dst := some 25, op := _, type := _, pos := _, after := _, guard := _ }) (v := ?_) rfl (by kernel_rfl) (by kernel_rfl) (by kernel_rfl) (fun _ _ _ h => h) (Or.inl (Or.inl ⟨by rfl, ?_⟩)) hS ?_
     rotate_left
     focus ((intro w hSw; (try dsimp only at hSw); skip; go_simp); (try with_reducible rfl))
     intro wq hwq
     subst hwq
     (try simp only [Act.put, List.setIfInBounds_toArray, List.set_cons_zero, List.set_cons_succ])
     refine wpAnyK_done (by kernel_rfl) ?_ _
     go_wp2_with fail
     go_meet
     exact ⟨ga, gb, VA, vn, vcp, vlast, vsb, vpb, vparts, VE, ven, vec, vev, rfl, rfl, rfl, hV3, hA3, hB3, hab, HGA.out, HGB.out, hS⟩
   ·refine stepK (o := { dst := some 23, op := _, type := _, pos := _, after := _, guard := _ }) rfl (fun K hK => ?_)
    go_simp
    obtain ⟨ga, hgg⟩ : ∃ x, y0.heap.size = x := ⟨_, rfl⟩
    obtain ⟨y1, hyy⟩ : ∃ x, y0.alloc (.cells zS.toArray 24) = x := ⟨_, rfl⟩
    have lc : Later y0 y1 := hyy ▸ Later.new _ _
    have HA := Lib.hid (show Blk y1 ga zS.toArray 24 from hyy ▸ Blk.new _ _ _ _ hgg.symm)
    have HGA := Lib.hid (show wr.heap.size ≤ ga from hgg ▸ Later.size hS)
    replace hS : (fun W : World => Later wr W) y1 := Later.trans hS lc
    try rw [hgg]
    unfold zS at hyy
    rw [hyy]
    refine hK _ _ hS fun wq hwq => ?_
    subst hwq
    clear hK lc hyy hgg
    (try simp only [Act.put, List.setIfInBounds_toArray, List.set_cons_zero, List.set_cons_succ])
    refine wpAnyK_all (rs := [12, 18]) (by kernel_rfl) (by simp) (fun i hi => ?_)
    simp only [List.mem_cons, List.not_mem_nil, or_false] at hi
    rcases hi with rfl | rfl
    ·refine stepK (o := { dst := some 111, op := _, type := _, pos := _, after := _, guard := _ }) rfl (fun K hK => ?_)
     go_simp
     refine (HAP.out _ hS).mono ?_
     intro e y2 hap
     obtain ⟨VA, vn, vcp, vlast, vsb, vpb, vparts, VE, ven, vec, vev, rfl, hv, lc⟩ := hap.v (Later.size hS)
     have HV := Lib.hid hv
     replace hS : (fun W : World => Later wr W) y2 := Later.trans hS lc
     have HA := Lib.hid (HA.out.later lc)
     refine hK _ _ hS fun wq hwq => ?_
     subst hwq
     clear hK hap hv lc
     (try simp only [Act.put, List.setIfInBounds_toArray, List.set_cons_zero, List.set_cons_succ])
     refine wpAnyK_take (fun _ => rfl) (fun _ _ _ h k => h.trans k) (fun _ _ h k => k ▸ h) (i := 13) (oi := { dst := some 98, op := _, type := _, pos := _, after := _, guard := _ }) (v := ?_) rfl (by kernel_rfl) (by kernel_rfl) (by kernel_rfl) (fun _ _ _ h => h) (Or.inl (Or.inl ⟨by rfl, ?_⟩)) hS ?_
     rotate_left
     focus ((intro w hSw; (try dsimp only at hSw); skip; go_simp); (try with_reducible rfl))
     intro wq hwq
     subst hwq
     (try simp only [Act.put, List.setIfInBounds_toArray, List.set_cons_zero, List.set_cons_succ])
     refine wpAnyK_take (fun _ => rfl) (fun _ _ _ h k => h.trans k) (fun _ _ h k => k ▸ h) (i := 14) (oi := { dst := some 112, op := _, type := _, pos := _, after := _, guard := _ }) (v := ?_) rfl (by kernel_rfl) (by kernel_rfl) (by kernel_rfl) (fun _ _ _ h => h) (Or.inl (Or.inl ⟨by rfl, ?_⟩)) hS ?_
     rotate_left
     focus ((intro w hSw; (try dsimp only at hSw); skip; go_simp); (try with_reducible rfl))
     intro wq hwq
     subst hwq
     (try simp only [Act.put, List.setIfInBounds_toArray, List.set_cons_zero, List.set_cons_succ])
     refine wpAnyK_take (fun _ => rfl) (fun _ _ _ h k => h.trans k) (fun _ _ h k => k ▸ h) (i := 15) (oi := { dst := some 113, op := _, type := _, pos := _, after := _, guard := _ }) (v := ?_) rfl (by kernel_rfl) (by kernel_rfl) (by kernel_rfl) (fun _ _ _ h => h) (Or.inl (Or.inl ⟨by rfl, ?_⟩)) hS ?_
     rotate_left
     focus ((intro w hSw; (try dsimp only at hSw); skip; go_simp); (try with_reducible rfl))
     intro wq hwq
     subst hwq
     (try simp only [Act.put, List.setIfInBounds_toArray, List.set_cons_zero, List.set_cons_succ])
     refine wpAnyK_take (fun _ => rfl) (fun _ _ _ h k => h.trans k) (fun _ _ h k => k ▸ h) (i := 16) (oi := { dst := some 114, op := _, type := _, pos := _, after := _, guard := _ }) (v := ?_) rfl (by kernel_rfl) (by kernel_rfl) (by kernel_rfl) (fun _ _ _ h => h) (Or.inl (Or.inl ⟨by rfl, ?_⟩)) hS ?_
     rotate_left
     focus ((intro w hSw; (try dsimp only at hSw); skip; go_simp); (try with_reducible rfl))
     intro wq hwq
     subst hwq
     (try simp only [Act.put, List.setIfInBounds_toArray, List.set_cons_zero, List.set_cons_succ])
     refine wpAnyK_all (rs := [18]) (by kernel_rfl) (by simp) (fun i hi => ?_)
     simp only [List.mem_cons, List.not_mem_nil, or_false] at hi
     subst hi
     refine stepK (o := { dst := some 24, op := _, type := _, pos := _, after := _, guard := _ }) rfl (fun K hK => ?_)
     go_simp
     obtain ⟨gb, hgg⟩ : ∃ x, y2.heap.size = x := ⟨_, rfl⟩
     obtain ⟨y3, hyy⟩ : ∃ x, y2.alloc (.cells zL.toArray 27) = x := ⟨_, rfl⟩
     have lc : Later y2 y3 := hyy ▸ Later.new _ _
     have HB := Lib.hid (show Blk y3 gb zL.toArray 27 from hyy ▸ Blk.new _ _ _ _ hgg.symm)
     have HGB := Lib.hid (show wr.heap.size ≤ gb from hgg ▸ Later.size hS)
     replace hS : (fun W : World => Later wr W) y3 := Later.trans hS lc
     have HV := Lib.hid (HV.out.later lc)
     have HA := Lib.hid (HA.out.later lc)
     try rw [hgg]
     unfold zL at hyy
     rw [hyy]
     refine hK _ _ hS fun wq hwq => ?_
     subst hwq
     clear hK lc hyy hgg
     (try simp only [Act.put, List.setIfInBounds_toArray, List.set_cons_zero, List.set_cons_succ])
     have hab : ga ≠ gb := ne_typ HA.out HB.out (by decide)
     refine wpAnyK_all (rs := [19]) (by kernel_rfl) (by simp) (fun i hi => ?_)
     simp only [List.mem_cons, List.not_mem_nil, or_false] at hi
     subst hi
     refine stepK (o := { dst := none, op := _, type := _, pos := _, after := _, guard := _ }) rfl (fun K hK => ?_)
     rw [if_pos (by rfl)]
     refine wp_store_mid 24 _ _ rfl ga 0 #[.slice VA vn vcp, .int .i64 vlast] rfl rfl (fun j hj => by rw [Nat.zero_add]; have hj2 : j < 2 := hj; exact ⟨by rw [cell_of_row y3 ga j _ _ _ HA.out, Array.getElem?_eq_getElem (by exact hj2)]; rfl, HA.out.frozen j⟩) (by kernel_rfl) (by simp [Value.oneCell']) ?_
     have hA2 := Blk.fill zS [.slice VA vn vcp, .int .i64 vlast] HA.out rfl
     have hB2 := HB.out.aside hab.symm 0 [.slice VA vn vcp, .int .i64 vlast]
     have hV2 := HV.out.fill HA.out (by decide) (by decide) 0 [.slice VA vn vcp, .int .i64 vlast]
     have hS : (fun W : World => Later wr W) (y3.setCells ga 0 [.slice VA vn vcp, .int .i64 vlast]) := Later.fill hS HGA.out 0 _
     refine hK _ _ hS fun wq hwq => ?_
     obtain ⟨z1, hz1⟩ : ∃ x, y3.setCells ga 0 [.slice VA vn vcp, .int .i64 vlast] = x := ⟨_, rfl⟩
     rw [hz1] at hA2 hB2 hV2 hS
     have hz2 : z1 = wq := hz1.symm.trans hwq
     subst hz2
     clear hK hwq hz1
     (try simp only [Act.put])
     refine wpAnyK_all (rs := [20]) (by kernel_rfl) (by simp) (fun i hi => ?_)
     simp only [List.mem_cons, List.not_mem_nil, or_false] at hi
     subst hi
     refine stepK (o := { dst := none, op := _, type := _, pos := _, after := _, guard := _ }) rfl (fun K hK => ?_)
     rw [if_pos (by rfl)]
     refine wp_store_mid 27 _ _ rfl gb 0 #[.int .i64 vsb, .int .i64 vpb, .int .i64 vparts, .slice VE ven vec] rfl rfl (fun j hj => by rw [Nat.zero_add]; have hj2 : j < 4 := hj; exact ⟨by rw [cell_of_row z1 gb j _ _ _ hB2, Array.getElem?_eq_getElem (by exact hj2)]; rfl, hB2.frozen j⟩) (by kernel_rfl) (by simp [Value.oneCell']) ?_
     have hB3 := Blk.fill zL [.int .i64 vsb, .int .i64 vpb, .int .i64 vparts, .slice VE ven vec] hB2 rfl
     have hA3 := hA2.aside hab 0 [.int .i64 vsb, .int .i64 vpb, .int .i64 vparts, .slice VE ven vec]
     have hV3 := hV2.fill hB2 (by decide) (by decide) 0 [.int .i64 vsb, .int .i64 vpb, .int .i64 vparts, .slice VE ven vec]
     have hS : (fun W : World => Later wr W) (z1.setCells gb 0 [.int .i64 vsb, .int .i64 vpb, .int .i64 vparts, .slice VE ven vec]) := Later.fill hS HGB.out 0 _
     refine hK _ _ hS fun wq hwq => ?_
     obtain ⟨z2, hz1⟩ : ∃ x, z1.setCells gb 0 [.int .i64 vsb, .int .i64 vpb, .int .i64 vparts, .slice VE ven vec] = x := ⟨_, rfl⟩
     rw [hz1] at hA3 hB3 hV3 hS
     have hz2 : z2 = wq := hz1.symm.trans hwq
     subst hz2
     clear hK hwq hz1 hA2 hB2 hV2
     (try simp only [Act.put])
     refine wpAnyK_take (fun _ => rfl) (fun _ _ _ h k => h.trans k) (fun _ _ h k => k ▸ h) (i := 21) (oi := { dst := some 25, op := _, type := _, pos := _, after := _, guard := _ }) (v := ?_) rfl (by kernel_rfl) (by kernel_rfl) (by kernel_rfl) (fun _ _ _ h => h) (Or.inl (Or.inl ⟨by rfl, ?_⟩)) hS ?_
     rotate_left
     focus ((intro w hSw; (try dsimp only at hSw); skip; go_simp); (try with_reducible rfl))
     intro wq hwq
     subst hwq
     (try simp only [Act.put, List.setIfInBounds_toArray, List.set_cons_zero, List.set_cons_succ])
     refine wpAnyK_done (by kernel_rfl) ?_ _
     go_wp2_with fail
     go_meet
     exact ⟨ga, gb, VA, vn, vcp, vlast, vsb, vpb, vparts, VE, ven, vec, vev, rfl, rfl, rfl, hV3, hA3, hB3, hab, HGA.out, HGB.out, hS⟩
    ·refine stepK (o := { dst := some 24, op := _, type := _, pos := _, after := _, guard := _ }) rfl (fun K hK => ?_)
     go_simp
     obtain ⟨gb, hgg⟩ : ∃ x, y1.heap.size = x := ⟨_, rfl⟩
     obtain ⟨y2, hyy⟩ : ∃ x, y1.alloc (.cells zL.toArray 27) = x := ⟨_, rfl⟩
     have lc : Later y1 y2 := hyy ▸ Later.new _ _
     have HB := Lib.hid (show Blk y2 gb zL.toArray 27 from hyy ▸ Blk.new _ _ _ _ hgg.symm)
     have HGB := Lib.hid (show wr.heap.size ≤ gb from hgg ▸ Later.size hS)
     replace hS : (fun W : World => Later wr W) y2 := Later.trans hS lc
     have HA := Lib.hid (HA.out.later lc)
     try rw [hgg]
     unfold zL at hyy
     rw [hyy]
     refine hK _ _ hS fun wq hwq => ?_
     subst hwq
     clear hK lc hyy hgg
     (try simp only [Act.put, List.setIfInBounds_toArray, List.set_cons_zero, List.set_cons_succ])
     refine wpAnyK_all (rs := [12]) (by kernel_rfl) (by simp) (fun i hi => ?_)
     simp only [List.mem_cons, List.not_mem_nil, or_false] at hi
     subst hi
     refine stepK (o := { dst := some 111, op := _, type := _, pos := _, after := _, guard := _ }) rfl (fun K hK => ?_)
     go_simp
     refine (HAP.out _ hS).mono ?_
     intro e y3 hap
     obtain ⟨VA, vn, vcp, vlast, vsb, vpb, vparts, VE, ven, vec, vev, rfl, hv, lc⟩ := hap.v (Later.size hS)
     have HV := Lib.hid hv
     replace hS : (fun W : World => Later wr W) y3 := Later.trans hS lc
     have HA := Lib.hid (HA.out.later lc)
     have HB := Lib.hid (HB.out.later lc)
     refine hK _ _ hS fun wq hwq => ?_
     subst hwq
     clear hK hap hv lc
     (try simp only [Act.put, List.setIfInBounds_toArray, List.set_cons_zero, List.set_cons_succ])
     refine wpAnyK_take (fun _ => rfl) (fun _ _ _ h k => h.trans k) (fun _ _ h k => k ▸ h) (i := 13) (oi := { dst := some 98, op := _, type := _, pos := _, after := _, guard := _ }) (v := ?_) rfl (by kernel_rfl) (by kernel_rfl) (by kernel_rfl) (fun _ _ _ h => h) (Or.inl (Or.inl ⟨by rfl, ?_⟩)) hS ?_
     rotate_left
     focus ((intro w hSw; (try dsimp only at hSw); skip; go_simp); (try with_reducible rfl))
     intro wq hwq
     subst hwq
     (try simp only [Act.put, List.setIfInBounds_toArray, List.set_cons_zero, List.set_cons_succ])
     refine wpAnyK_take (fun _ => rfl) (fun _ _ _ h k => h.trans k) (fun _ _ h k => k ▸ h) (i := 14) (oi := { dst := some 112, op := _, type := _, pos := _, after := _, guard := _ }) (v := ?_) rfl (by kernel_rfl) (by kernel_rfl) (by kernel_rfl) (fun _ _ _ h => h) (Or.inl (Or.inl ⟨by rfl, ?_⟩)) hS ?_
     rotate_left
     focus ((intro w hSw; (try dsimp only at hSw); skip; go_simp); (try with_reducible rfl))
     intro wq hwq
     subst hwq
     (try simp only [Act.put, List.setIfInBounds_toArray, List.set_cons_zero, List.set_cons_succ])
     refine wpAnyK_take (fun _ => rfl) (fun _ _ _ h k => h.trans k) (fun _ _ h k => k ▸ h) (i := 15) (oi := { dst := some 113, op := _, type := _, pos := _, after := _, guard := _ }) (v := ?_) rfl (by kernel_rfl) (by kernel_rfl) (by kernel_rfl) (fun _ _ _ h => h) (Or.inl (Or.inl ⟨by rfl, ?_⟩)) hS ?_
     rotate_left
     focus ((intro w hSw; (try dsimp only at hSw); skip; go_simp); (try with_reducible rfl))
     intro wq hwq
     subst hwq
     (try simp only [Act.put, List.setIfInBounds_toArray, List.set_cons_zero, List.set_cons_succ])
     refine wpAnyK_take (fun _ => rfl) (fun _ _ _ h k => h.trans k) (fun _ _ h k => k ▸ h) (i := 16) (oi := { dst := some 114, op := _, type := _, pos := _, after := _, guard := _ }) (v := ?_) rfl (by kernel_rfl) (by kernel_rfl) (by kernel_rfl) (fun _ _ _ h => h) (Or.inl (Or.inl ⟨by rfl, ?_⟩)) hS ?_
     rotate_left
     focus ((intro w hSw; (try dsimp only at hSw); skip; go_simp); (try with_reducible rfl))
     intro wq hwq
     subst hwq
     (try simp only [Act.put, List.setIfInBounds_toArray, List.set_cons_zero, List.set_cons_succ])
     have hab : ga ≠ gb := ne_typ HA.out HB.out (by decide)
     refine wpAnyK_all (rs := [19]) (by kernel_rfl) (by simp) (fun i hi => ?_)
     simp only [List.mem_cons, List.not_mem_nil, or_false] at hi
     subst hi
     refine stepK (o := { dst := none, op := _, type := _, pos := _, after := _, guard := _ }) rfl (fun K hK => ?_)
     rw [if_pos (by rfl)]
     refine wp_store_mid 24 _ _ rfl ga 0 #[.slice VA vn vcp, .int .i64 vlast] rfl rfl (fun j hj => by rw [Nat.zero_add]; have hj2 : j < 2 := hj; exact ⟨by rw [cell_of_row y3 ga j _ _ _ HA.out, Array.getElem?_eq_getElem (by exact hj2)]; rfl, HA.out.frozen j⟩) (by kernel_rfl) (by simp [Value.oneCell']) ?_
     have hA2 := Blk.fill zS [.slice VA vn vcp, .int .i64 vlast] HA.out rfl
     have hB2 := HB.out.aside hab.symm 0 [.slice VA vn vcp, .int .i64 vlast]
     have hV2 := HV.out.fill HA.out (by decide) (by decide) 0 [.slice VA vn vcp, .int .i64 vlast]
     have hS : (fun W : World => Later wr W) (y3.setCells ga 0 [.slice VA vn vcp, .int .i64 vlast]) := Later.fill hS HGA.out 0 _
     refine hK _ _ hS fun wq hwq => ?_
     obtain ⟨z1, hz1⟩ : ∃ x, y3.setCells ga 0 [.slice VA vn vcp, .int .i64 vlast] = x := ⟨_, rfl⟩
     rw [hz1] at hA2 hB2 hV2 hS
     have hz2 : z1 = wq := hz1.symm.trans hwq
     subst hz2
     clear hK hwq hz1
     (try simp only [Act.put])
     refine wpAnyK_all (rs := [20]) (by kernel_rfl) (by simp) (fun i hi => ?_)
     simp only [List.mem_cons, List.not_mem_nil, or_false] at hi
     subst hi
     refine stepK (o := { dst := none, op := _, type := _, pos := _, after := _, guard := _ }) rfl (fun K hK => ?_)
     rw [if_pos (by rfl)]
     refine wp_store_mid 27 _ _ rfl gb 0 #[.int .i64 vsb, .int .i64 vpb, .int .i64 vparts, .slice VE ven vec] rfl rfl (fun j hj => by rw [Nat.zero_add]; have hj2 : j < 4 := hj; exact ⟨by rw [cell_of_row z1 gb j _ _ _ hB2, Array.getElem?_eq_getElem (by exact hj2)]; rfl, hB2.frozen j⟩) (by kernel_rfl) (by simp [Value.oneCell']) ?_
     have hB3 := Blk.fill zL [.int .i64 vsb, .int .i64 vpb, .int .i64 vparts, .slice VE ven vec] hB2 rfl
     have hA3 := hA2.aside hab 0 [.int .i64 vsb, .int .i64 vpb, .int .i64 vparts, .slice VE ven vec]
     have hV3 := hV2.fill hB2 (by decide) (by decide) 0 [.int .i64 vsb, .int .i64 vpb, .int .i64 vparts, .slice VE ven vec]
     have hS : (fun W : World => Later wr W) (z1.setCells gb 0 [.int .i64 vsb, .int .i64 vpb, .int .i64 vparts, .slice VE ven vec]) := Later.fill hS HGB.out 0 _
     refine hK _ _ hS fun wq hwq => ?_
     obtain ⟨z2, hz1⟩ : ∃ x, z1.setCells gb 0 [.int .i64 vsb, .int .i64 vpb, .int .i64 vparts, .slice VE ven vec] = x := ⟨_, rfl⟩
     rw [hz1] at hA3 hB3 hV3 hS
     have hz2 : z2 = wq := hz1.symm.trans hwq
     subst hz2
     clear hK hwq hz1 hA2 hB2 hV2
     (try simp only [Act.put])
     refine wpAnyK_take (fun _ => rfl) (fun _ _ _ h k => h.trans k) (fun _ _ h k => k ▸ h) (i := 21) (oi := { dst := some 25, op := _, type := _, pos := _, after := _, guard := _ }) (v := ?_) rfl (by kernel_rfl) (by kernel_rfl) (by kernel_rfl) (fun _ _ _ h => h) (Or.inl (Or.inl ⟨by rfl, ?_⟩)) hS ?_
     rotate_left
     focus ((intro w hSw; (try dsimp only at hSw); skip; go_simp); (try with_reducible rfl))
     intro wq hwq
     subst hwq
     (try simp only [Act.put, List.setIfInBounds_toArray, List.set_cons_zero, List.set_cons_succ])
     refine wpAnyK_done (by kernel_rfl) ?_ _
     go_wp2_with fail
     go_meet
     exact ⟨ga, gb, VA, vn, vcp, vlast, vsb, vpb, vparts, VE, ven, vec, vev, rfl, rfl, rfl, hV3, hA3, hB3, hab, HGA.out, HGB.out, hS⟩
   ·refine stepK (o := { dst := some 24, op := _, type := _, pos := _, after := _, guard := _ }) rfl (fun K hK => ?_)
    go_simp
    obtain ⟨gb, hgg⟩ : ∃ x, y0.heap.size = x := ⟨_, rfl⟩
    obtain ⟨y1, hyy⟩ : ∃ x, y0.alloc (.cells zL.toArray 27) = x := ⟨_, rfl⟩
    have lc : Later y0 y1 := hyy ▸ Later.new _ _
    have HB := Lib.hid (show Blk y1 gb zL.toArray 27 from hyy ▸ Blk.new _ _ _ _ hgg.symm)
    have HGB := Lib.hid (show wr.heap.size ≤ gb from hgg ▸ Later.size hS)
    replace hS : (fun W : World => Later wr W) y1 := Later.trans hS lc
    try rw [hgg]
    unfold zL at hyy
    rw [hyy]
    refine hK _ _ hS fun wq hwq => ?_
    subst hwq
    clear hK lc hyy hgg
    (try simp only [Act.put, List.setIfInBounds_toArray, List.set_cons_zero, List.set_cons_succ])
    refine wpAnyK_all (rs := [12, 17]) (by kernel_rfl) (by simp) (fun i hi => ?_)
    simp only [List.mem_cons, List.not_mem_nil, or_false] at hi
    rcases hi with rfl | rfl
    ·refine stepK (o := { dst := some 111, op := _, type := _, pos := _, after := _, guard := _ }) rfl (fun K hK => ?_)
     go_simp
     refine (HAP.out _ hS).mono ?_
     intro e y2 hap
     obtain ⟨VA, vn, vcp, vlast, vsb, vpb, vparts, VE, ven, vec, vev, rfl, hv, lc⟩ := hap.v (Later.size hS)
     have HV := Lib.hid hv
     replace hS : (fun W : World => Later wr W) y2 := Later.trans hS lc
     have HB := Lib.hid (HB.out.later lc)
     refine hK _ _ hS fun wq hwq => ?_
     subst hwq
     clear hK hap hv lc
     (try simp only [Act.put, List.setIfInBounds_toArray, List.set_cons_zero, List.set_cons_succ])
     refine wpAnyK_take (fun _ => rfl) (fun _ _ _ h k => h.trans k) (fun _ _ h k => k ▸ h) (i := 13) (oi := { dst := some 98, op := _, type := _, pos := _, after := _, guard := _ }) (v := ?_) rfl (by kernel_rfl) (by kernel_rfl) (by kernel_rfl) (fun _ _ _ h => h) (Or.inl (Or.inl ⟨by rfl, ?_⟩)) hS ?_
     rotate_left
     focus ((intro w hSw; (try dsimp only at hSw); skip; go_simp); (try with_reducible rfl))
     intro wq hwq
     subst hwq
     (try simp only [Act.put, List.setIfInBounds_toArray, List.set_cons_zero, List.set_cons_succ])
     refine wpAnyK_take (fun _ => rfl) (fun _ _ _ h k => h.trans k) (fun _ _ h k => k ▸ h) (i := 14) (oi := { dst := some 112, op := _, type := _, pos := _, after := _, guard := _ }) (v := ?_) rfl (by kernel_rfl) (by kernel_rfl) (by kernel_rfl) (fun _ _ _ h => h) (Or.inl (Or.inl ⟨by rfl, ?_⟩)) hS ?_
     rotate_left
     focus ((intro w hSw; (try dsimp only at hSw); skip; go_simp); (try with_reducible rfl))
     intro wq hwq
     subst hwq
     (try simp only [Act.put, List.setIfInBounds_toArray, List.set_cons_zero, List.set_cons_succ])
     refine wpAnyK_take (fun _ => rfl) (fun _ _ _ h k => h.trans k) (fun _ _ h k => k ▸ h) (i := 15) (oi := { dst := some 113, op := _, type := _, pos := _, after := _, guard := _ }) (v := ?_) rfl (by kernel_rfl) (by kernel_rfl) (by kernel_rfl) (fun _ _ _ h => h) (Or.inl (Or.inl ⟨by rfl, ?_⟩)) hS ?_
     rotate_left
     focus ((intro w hSw; (try dsimp only at hSw); skip; go_simp); (try with_reducible rfl))
     intro wq hwq
     subst hwq
     (try simp only [Act.put, List.setIfInBounds_toArray, List.set_cons_zero, List.set_cons_succ])
     refine wpAnyK_take (fun _ => rfl) (fun _ _ _ h k => h.trans k) (fun _ _ h k => k ▸ h) (i := 16) (oi := { dst := some 114, op := _, type := _, pos := _, after := _, guard := _ }) (v := ?_) rfl (by kernel_rfl) (by kernel_rfl) (by kernel_rfl) (fun _ _ _ h => h) (Or.inl (Or.inl ⟨by rfl, ?_⟩)) hS ?_
     rotate_left
     focus ((intro w hSw; (try dsimp only at hSw); skip; go_simp); (try with_reducible rfl))
     intro wq hwq
     subst hwq
     (try simp only [Act.put, List.setIfInBounds_toArray, List.set_cons_zero, List.set_cons_succ])
     refine wpAnyK_all (rs := [17]) (by kernel_rfl) (by simp) (fun i hi => ?_)
     simp only [List.mem_cons, List.not_mem_nil, or_false] at hi
     subst hi
     refine stepK (o := { dst := some 23, op := _, type := _, pos := _, after := _, guard := _ }) rfl (fun K hK => ?_)
     go_simp
     obtain ⟨ga, hgg⟩ : ∃ x, y2.heap.size = x := ⟨_, rfl⟩
     obtain ⟨y3, hyy⟩ : ∃ x, y2.alloc (.cells zS.toArray 24) = x := ⟨_, rfl⟩
     have lc : Later y2 y3 := hyy ▸ Later.new _ _
     have HA := Lib.hid (show Blk y3 ga zS.toArray 24 from hyy ▸ Blk.new _ _ _ _ hgg.symm)
     have HGA := Lib.hid (show wr.heap.size ≤ ga from hgg ▸ Later.size hS)
     replace hS : (fun W : World => Later wr W) y3 := Later.trans hS lc
     have HV := Lib.hid (HV.out.later lc)
     have HB := Lib.hid (HB.out.later lc)
     try rw [hgg]
     unfold zS at hyy
     rw [hyy]
     refine hK _ _ hS fun wq hwq => ?_
     subst hwq
     clear hK lc hyy hgg
     (try simp only [Act.put, List.setIfInBounds_toArray, List.set_cons_zero, List.set_cons_succ])
     have hab : ga ≠ gb := ne_typ HA.out HB.out (by decide)
     refine wpAnyK_all (rs := [19]) (by kernel_rfl) (by simp) (fun i hi => ?_)
     simp only [List.mem_cons, List.not_mem_nil, or_false] at hi
     subst hi
     refine stepK (o := { dst := none, op := _, type := _, pos := _, after := _, guard := _ }) rfl (fun K hK => ?_)
     rw [if_pos (by rfl)]
     refine wp_store_mid 24 _ _ rfl ga 0 #[.slice VA vn vcp, .int .i64 vlast] rfl rfl (fun j hj => by rw [Nat.zero_add]; have hj2 : j < 2 := hj; exact ⟨by rw [cell_of_row y3 ga j _ _ _ HA.out, Array.getElem?_eq_getElem (by exact hj2)]; rfl, HA.out.frozen j⟩) (by kernel_rfl) (by simp [Value.oneCell']) ?_
     have hA2 := Blk.fill zS [.slice VA vn vcp, .int .i64 vlast] HA.out rfl
     have hB2 := HB.out.aside hab.symm 0 [.slice VA vn vcp, .int .i64 vlast]
     have hV2 := HV.out.fill HA.out (by decide) (by decide) 0 [.slice VA vn vcp, .int .i64 vlast]
     have hS : (fun W : World => Later wr W) (y3.setCells ga 0 [.slice VA vn vcp, .int .i64 vlast]) := Later.fill hS HGA.out 0 _
     refine hK _ _ hS fun wq hwq => ?_
     obtain ⟨z1, hz1⟩ : ∃ x, y3.setCells ga 0 [.slice VA vn vcp, .int .i64 vlast] = x := ⟨_, rfl⟩
     rw [hz1] at hA2 hB2 hV2 hS
     have hz2 : z1 = wq := hz1.symm.trans hwq
     subst hz2
     clear hK hwq hz1
     (try simp only [Act.put])
     refine wpAnyK_all (rs := [20]) (by kernel_rfl) (by simp) (fun i hi => ?_)
     simp only [List.mem_cons, List.not_mem_nil, or_false] at hi
     subst hi
     refine stepK (o := { dst := none, op := _, type := _, pos := _, after := _, guard := _ }) rfl (fun K hK => ?_)
     rw [if_pos (by rfl)]
     refine wp_store_mid 27 _ _ rfl gb 0 #[.int .i64 vsb, .int .i64 vpb, .int .i64 vparts, .slice VE ven vec] rfl rfl (fun j hj => by rw [Nat.zero_add]; have hj2 : j < 4 := hj; exact ⟨by rw [cell_of_row z1 gb j _ _ _ hB2, Array.getElem?_eq_getElem (by exact hj2)]; rfl, hB2.frozen j⟩) (by kernel_rfl) (by simp [Value.oneCell']) ?_
     have hB3 := Blk.fill zL [.int .i64 vsb, .int .i64 vpb, .int .i64 vparts, .slice VE ven vec] hB2 rfl
     have hA3 := hA2.aside hab 0 [.int .i64 vsb, .int .i64 vpb, .int .i64 vparts, .slice VE ven vec]
     have hV3 := hV2.fill hB2 (by decide) (by decide) 0 [.int .i64 vsb, .int .i64 vpb, .int .i64 vparts, .slice VE ven vec]
     have hS : (fun W : World => Later wr W) (z1.setCells gb 0 [.int .i64 vsb, .int .i64 vpb, .int .i64 vparts, .slice VE ven vec]) := Later.fill hS HGB.out 0 _
     refine hK _ _ hS fun wq hwq => ?_
     obtain ⟨z2, hz1⟩ : ∃ x, z1.setCells gb 0 [.int .i64 vsb, .int .i64 vpb, .int .i64 vparts, .slice VE ven vec] = x := ⟨_, rfl⟩
     rw [hz1] at hA3 hB3 hV3 hS
     have hz2 : z2 = wq := hz1.symm.trans hwq
     subst hz2
     clear hK hwq hz1 hA2 hB2 hV2
     (try simp only [Act.put])
     refine wpAnyK_take (fun _ => rfl) (fun _ _ _ h k => h.trans k) (fun _ _ h k => k ▸ h) (i := 21) (oi := { dst := some 25, op := _, type := _, pos := _, after := _, guard := _ }) (v := ?_) rfl (by kernel_rfl) (by kernel_rfl) (by kernel_rfl) (fun _ _ _ h => h) (Or.inl (Or.inl ⟨by rfl, ?_⟩)) hS ?_
     rotate_left
     focus ((intro w hSw; (try dsimp only at hSw); skip; go_simp); (try with_reducible rfl))
     intro wq hwq
     subst hwq
     (try simp only [Act.put, List.setIfInBounds_toArray, List.set_cons_zero, List.set_cons_succ])
     refine wpAnyK_done (by kernel_rfl) ?_ _
     go_wp2_with fail
     go_meet
     exact ⟨ga, gb, VA, vn, vcp, vlast, vsb, vpb, vparts, VE, ven, vec, vev, rfl, rfl, rfl, hV3, hA3, hB3, hab, HGA.out, HGB.out, hS⟩
    ·refine stepK (o := { dst := some 23, op := _, type := _, pos := _, after := _, guard := _ }) rfl (fun K hK => ?_)
     go_simp
     obtain ⟨ga, hgg⟩ : ∃ x, y1.heap.size = x := ⟨_, rfl⟩
     obtain ⟨y2, hyy⟩ : ∃ x, y1.alloc (.cells zS.toArray 24) = x := ⟨_, rfl⟩
     have lc : Later y1 y2 := hyy ▸ Later.new _ _
     have HA := Lib.hid (show Blk y2 ga zS.toArray 24 from hyy ▸ Blk.new _ _ _ _ hgg.symm)
     have HGA := Lib.hid (show wr.heap.size ≤ ga from hgg ▸ Later.size hS)
     replace hS : (fun W : World => Later wr W) y2 := Later.trans hS lc
     have HB := Lib.hid (HB.out.later lc)
     try rw [hgg]
     unfold zS at hyy
     rw [hyy]
     refine hK _ _ hS fun wq hwq => ?_
     subst hwq
     clear hK lc hyy hgg
     (try simp only [Act.put, List.setIfInBounds_toArray, List.set_cons_zero, List.set_cons_succ])
     refine wpAnyK_all (rs := [12]) (by kernel_rfl) (by simp) (fun i hi => ?_)
     simp only [List.mem_cons, List.not_mem_nil, or_false] at hi
     subst hi
     refine stepK (o := { dst := some 111, op := _, type := _, pos := _, after := _, guard := _ }) rfl (fun K hK => ?_)
     go_simp
     refine (HAP.out _ hS).mono ?_
     intro e y3 hap
     obtain ⟨VA, vn, vcp, vlast, vsb, vpb, vparts, VE, ven, vec, vev, rfl, hv, lc⟩ := hap.v (Later.size hS)
     have HV := Lib.hid hv
     replace hS : (fun W : World => Later wr W) y3 := Later.trans hS lc
     have HA := Lib.hid (HA.out.later lc)
     have HB := Lib.hid (HB.out.later lc)
     refine hK _ _ hS fun wq hwq => ?_
     subst hwq
     clear hK hap hv lc
     (try simp only [Act.put, List.setIfInBounds_toArray, List.set_cons_zero, List.set_cons_succ])
     refine wpAnyK_take (fun _ => rfl) (fun _ _ _ h k => h.trans k) (fun _ _ h k => k ▸ h) (i := 13) (oi := { dst := some 98, op := _, type := _, pos := _, after := _, guard := _ }) (v := ?_) rfl (by kernel_rfl) (by kernel_rfl) (by kernel_rfl) (fun _ _ _ h => h) (Or.inl (Or.inl ⟨by rfl, ?_⟩)) hS ?_
     rotate_left
     focus ((intro w hSw; (try dsimp only at hSw); skip; go_simp); (try with_reducible rfl))
     intro wq hwq
     subst hwq
     (try simp only [Act.put, List.setIfInBounds_toArray, List.set_cons_zero, List.set_cons_succ])
     refine wpAnyK_take (fun _ => rfl) (fun _ _ _ h k => h.trans k) (fun _ _ h k => k ▸ h) (i := 14) (oi := { dst := some 112, op := _, type := _, pos := _, after := _, guard := _ }) (v := ?_) rfl (by kernel_rfl) (by kernel_rfl) (by kernel_rfl) (fun _ _ _ h => h) (Or.inl (Or.inl ⟨by rfl, ?_⟩)) hS ?_
     rotate_left
     focus ((intro w hSw; (try dsimp only at hSw); skip; go_simp); (try with_reducible rfl))
     intro wq hwq
     subst hwq
     (try simp only [Act.put, List.setIfInBounds_toArray, List.set_cons_zero, List.set_cons_succ])
     refine wpAnyK_take (fun _ => rfl) (fun _ _ _ h k => h.trans k) (fun _ _ h k => k ▸ h) (i := 15) (oi := { dst := some 113, op := _, type := _, pos := _, after := _, guard := _ }) (v := ?_) rfl (by kernel_rfl) (by kernel_rfl) (by kernel_rfl) (fun _ _ _ h => h) (Or.inl (Or.inl ⟨by rfl, ?_⟩)) hS ?_
     rotate_left
     focus ((intro w hSw; (try dsimp only at hSw); skip; go_simp); (try with_reducible rfl))
     intro wq hwq
     subst hwq
     (try simp only [Act.put, List.setIfInBounds_toArray, List.set_cons_zero, List.set_cons_succ])
     refine wpAnyK_take (fun _ => rfl) (fun _ _ _ h k => h.trans k) (fun _ _ h k => k ▸ h) (i := 16) (oi := { dst := some 114, op := _, type := _, pos := _, after := _, guard := _ }) (v := ?_) rfl (by kernel_rfl) (by kernel_rfl) (by kernel_rfl) (fun _ _ _ h => h) (Or.inl (Or.inl ⟨by rfl, ?_⟩)) hS ?_
     rotate_left
     focus ((intro w hSw; (try dsimp only at hSw); skip; go_simp); (try with_reducible rfl))
     intro wq hwq
     subst hwq
     (try simp only [Act.put, List.setIfInBounds_toArray, List.set_cons_zero, List.set_cons_succ])
     have hab : ga ≠ gb := ne_typ HA.out HB.out (by decide)
     refine wpAnyK_all (rs := [19]) (by kernel_rfl) (by simp) (fun i hi => ?_)
     simp only [List.mem_cons, List.not_mem_nil, or_false] at hi
     subst hi
     refine stepK (o := { dst := none, op := _, type := _, pos := _, after := _, guard := _ }) rfl (fun K hK => ?_)
     rw [if_pos (by rfl)]
     refine wp_store_mid 24 _ _ rfl ga 0 #[.slice VA vn vcp, .int .i64 vlast] rfl rfl (fun j hj => by rw [Nat.zero_add]; have hj2 : j < 2 := hj; exact ⟨by rw [cell_of_row y3 ga j _ _ _ HA.out, Array.getElem?_eq_getElem (by exact hj2)]; rfl, HA.out.frozen j⟩) (by kernel_rfl) (by simp [Value.oneCell']) ?_
     have hA2 := Blk.fill zS [.slice VA vn vcp, .int .i64 vlast] HA.out rfl
     have hB2 := HB.out.aside hab.symm 0 [.slice VA vn vcp, .int .i64 vlast]
     have hV2 := HV.out.fill HA.out (by decide) (by decide) 0 [.slice VA vn vcp, .int .i64 vlast]
     have hS : (fun W : World => Later wr W) (y3.setCells ga 0 [.slice VA vn vcp, .int .i64 vlast]) := Later.fill hS HGA.out 0 _
     refine hK _ _ hS fun wq hwq => ?_
     obtain ⟨z1, hz1⟩ : ∃ x, y3.setCells ga 0 [.slice VA vn vcp, .int .i64 vlast] = x := ⟨_, rfl⟩
     rw [hz1] at hA2 hB2 hV2 hS
     have hz2 : z1 = wq := hz1.symm.trans hwq
     subst hz2
     clear hK hwq hz1
     (try simp only [Act.put])
     refine wpAnyK_all (rs := [20]) (by kernel_rfl) (by simp) (fun i hi => ?_)
     simp only [List.mem_cons, List.not_mem_nil, or_false] at hi
     subst hi
     refine stepK (o := { dst := none, op := _, type := _, pos := _, after := _, guard := _ }) rfl (fun K hK => ?_)
     rw [if_pos (by rfl)]
     refine wp_store_mid 27 _ _ rfl gb 0 #[.int .i64 vsb, .int .i64 vpb, .int .i64 vparts, .slice VE ven vec] rfl rfl (fun j hj => by rw [Nat.zero_add]; have hj2 : j < 4 := hj; exact ⟨by rw [cell_of_row z1 gb j _ _ _ hB2, Array.getElem?_eq_getElem (by exact hj2)]; rfl, hB2.frozen j⟩) (by kernel_rfl) (by simp [Value.oneCell']) ?_
     have hB3 := Blk.fill zL [.int .i64 vsb, .int .i64 vpb, .int .i64 vparts, .slice VE ven vec] hB2 rfl
     have hA3 := hA2.aside hab 0 [.int .i64 vsb, .int .i64 vpb, .int .i64 vparts, .slice VE ven vec]
     have hV3 := hV2.fill hB2 (by decide) (by decide) 0 [.int .i64 vsb, .int .i64 vpb, .int .i64 vparts, .slice VE ven vec]
     have hS : (fun W : World => Later wr W) (z1.setCells gb 0 [.int .i64 vsb, .int .i64 vpb, .int .i64 vparts, .slice VE ven vec]) := Later.fill hS HGB.out 0 _
     refine hK _ _ hS fun wq hwq => ?_
     obtain ⟨z2, hz1⟩ : ∃ x, z1.setCells gb 0 [.int .i64 vsb, .int .i64 vpb, .int .i64 vparts, .slice VE ven vec] = x := ⟨_, rfl⟩
     rw [hz1] at hA3 hB3 hV3 hS
     have hz2 : z2 = wq := hz1.symm.trans hwq
     subst hz2
     clear hK hwq hz1 hA2 hB2 hV2
     (try simp only [Act.put])
     refine wpAnyK_take (fun _ => rfl) (fun _ _ _ h k => h.trans k) (fun _ _ h k => k ▸ h) (i := 21) (oi := { dst := some 25, op := _, type := _, pos := _, after := _, guard := _ }) (v := ?_) rfl (by kernel_rfl) (by kernel_rfl) (by kernel_rfl) (fun _ _ _ h => h) (Or.inl (Or.inl ⟨by rfl, ?_⟩)) hS ?_
     rotate_left
     focus ((intro w hSw; (try dsimp only at hSw); skip; go_simp); (try with_reducible rfl))
     intro wq hwq
     subst hwq
     (try simp only [Act.put, List.setIfInBounds_toArray, List.set_cons_zero, List.set_cons_succ])
     refine wpAnyK_done (by kernel_rfl) ?_ _
     go_wp2_with fail
     go_meet
     exact ⟨ga, gb, VA, vn, vcp, vlast, vsb, vpb, vparts, VE, ven, vec, vev, rfl, rfl, rfl, hV3, hA3, hB3, hab, HGA.out, HGB.out, hS⟩
  case rest =>
  obtain ⟨g4, g5, VA, na, cpa, lsa, sba, pba, pta, EA, ena, eca, ea, rfl, rfl, rfl, hva, hA4, hB4, _, _, _, lx⟩ := hcut
  obtain ⟨o, ho⟩ : ∃ o, outS (applyM s1 c1) = o := ⟨_, rfl⟩
  have HO := Lib.hid ho
  obtain ⟨h1, h2, h3, h4, h5, h6, h7, h8, h9⟩ := hva.out
  rw [ho] at h1 h2 h3 h4 h5 h6 h8 h9
  subst h1 h2 h3 h4 h5 h6
  have HEA := Lib.hid h7
  have HOA := Lib.hid h8
  have HOE := Lib.hid h9
  have HA4 := Lib.hid hA4
  have HB4 := Lib.hid hB4
  have HOL := Lib.hid (show o.1.length ≤ 6 ∧ o.2.2.enc.length ≤ 6 from ho ▸ out_small)
  have HLX := Lib.hid (HLT.out.trans lx)
  have HRX := Lib.hid (HRK.out.later lx)
  clear hva hA4 hB4 lx h7 h8 h9 HAP HRK HLT ho
  have HAP := Lib.hid (fun (W : World) (l : Later wc W) => show Calls Tryd.prog 15 #[.agg #[.slice V1 s1.1.length vc1, .int .i64 s1.2.1], .agg #[.int .i64 s1.2.2.sb, .int .i64 s1.2.2.pb, .int .i64 s1.2.2.parts, .slice E1 s1.2.2.enc.length ec1], .agg #[.int .i64 c1.kind, .int .i64 c1.col, .string c1.name, .int .i64 c1.typ, .int .i64 c1.val.1, .int .i64 c1.val.2.1, .string c1.val.2.2, .int .u8 c1.sep, .int .i64 c1.num]] W (RApP s1 c1 W) from refApply_any V1 E1 vc1 ec1 s1 c1 W (HRX.out.hv.later l) (HRX.out.he.later l) (by have := HRX.out.ln; omega) (by have := HRX.out.ln; omega) HRX.out.nm HRX.out.cn HRX.out.vn HRX.out.en)
  go_upto_region 13 with fail
  go_cut [26, 27, 28] from 98 to 132 (fun pv qv ev wx => ResP s1 c1 wc pv qv ev wx)
  case first => as_aux_lemma =>
   refine wp_region_K (S := (fun W : World => Later wc W)) (R := fun a b => a = b) (fun _ => rfl) (by kernel_rfl) ?_
   obtain ⟨y0, hy0⟩ : ∃ x, wc.drew = x := ⟨_, rfl⟩
   have hS : (fun W : World => Later wc W) y0 := hy0 ▸ (Later.refl wc).drew
   rw [hy0]
   clear hy0
   refine wpAnyK_take (fun _ => rfl) (fun _ _ _ h k => h.trans k) (fun _ _ h k => k ▸ h) (i := 0) (oi := { dst := some 116, op := _, type := _, pos := _, after := _, guard := _ }) (v := ?_) rfl (by kernel_rfl) (by kernel_rfl) (by kernel_rfl) (fun _ _ _ h => h) (Or.inl (Or.inl ⟨by rfl, ?_⟩)) hS ?_
   rotate_left
   focus ((intro w hSw; (try dsimp only at hSw); have hx := HRX.out.later hSw; have q0 := hx.a0; have q1 := hx.a1; have p0 := hx.b0; have p1 := hx.b1; have p2 := hx.b2; have p3 := hx.b3; have c0 := hx.c0; have c1_ := hx.c1; have c2 := hx.c2; have c3 := hx.c3; have c4 := hx.c4; have c5 := hx.c5; have c6 := hx.c6; have c7 := hx.c7; have c8 := hx.c8; go_simp); (try with_reducible rfl))
   intro wq hwq
   subst hwq
   (try simp only [Act.put, List.setIfInBounds_toArray, List.set_cons_zero, List.set_cons_succ])
   refine wpAnyK_take (fun _ => rfl) (fun _ _ _ h k => h.trans k) (fun _ _ h k => k ▸ h) (i := 1) (oi := { dst := some 117, op := _, type := _, pos := _, after := _, guard := _ }) (v := ?_) rfl (by kernel_rfl) (by kernel_rfl) (by kernel_rfl) (fun _ _ _ h => h) (Or.inl (Or.inl ⟨by rfl, ?_⟩)) hS ?_
   rotate_left
   focus ((intro w hSw; (try dsimp only at hSw); have hx := HRX.out.later hSw; have q0 := hx.a0; have q1 := hx.a1; have p0 := hx.b0; have p1 := hx.b1; have p2 := hx.b2; have p3 := hx.b3; have c0 := hx.c0; have c1_ := hx.c1; have c2 := hx.c2; have c3 := hx.c3; have c4 := hx.c4; have c5 := hx.c5; have c6 := hx.c6; have c7 := hx.c7; have c8 := hx.c8; go_simp); (try with_reducible rfl))
   intro wq hwq
   subst hwq
   (try simp only [Act.put, List.setIfInBounds_toArray, List.set_cons_zero, List.set_cons_succ])
   refine wpAnyK_take (fun _ => rfl) (fun _ _ _ h k => h.trans k) (fun _ _ h k => k ▸ h) (i := 2) (oi := { dst := some 118, op := _, type := _, pos := _, after := _, guard := _ }) (v := ?_) rfl (by kernel_rfl) (by kernel_rfl) (by kernel_rfl) (fun _ _ _ h => h) (Or.inl (Or.inl ⟨by rfl, ?_⟩)) hS ?_
   rotate_left
   focus ((intro w hSw; (try dsimp only at hSw); have hx := HRX.out.later hSw; have q0 := hx.a0; have q1 := hx.a1; have p0 := hx.b0; have p1 := hx.b1; have p2 := hx.b2; have p3 := hx.b3; have c0 := hx.c0; have c1_ := hx.c1; have c2 := hx.c2; have c3 := hx.c3; have c4 := hx.c4; have c5 := hx.c5; have c6 := hx.c6; have c7 := hx.c7; have c8 := hx.c8; go_simp); (try with_reducible rfl))
   intro wq hwq
   subst hwq
   (try simp only [Act.put, List.setIfInBounds_toArray, List.set_cons_zero, List.set_cons_succ])
   refine wpAnyK_take (fun _ => rfl) (fun _ _ _ h k => h.trans k) (fun _ _ h k => k ▸ h) (i := 3) (oi := { dst := some 119, op := _, type := _, pos := _, after := _, guard := _ }) (v := ?_) rfl (by kernel_rfl) (by kernel_rfl) (by kernel_rfl) (fun _ _ _ h => h) (Or.inl (Or.inl ⟨by rfl, ?_⟩)) hS ?_
   rotate_left
   focus ((intro w hSw; (try dsimp only at hSw); have hx := HRX.out.later hSw; have q0 := hx.a0; have q1 := hx.a1; have p0 := hx.b0; have p1 := hx.b1; have p2 := hx.b2; have p3 := hx.b3; have c0 := hx.c0; have c1_ := hx.c1; have c2 := hx.c2; have c3 := hx.c3; have c4 := hx.c4; have c5 := hx.c5; have c6 := hx.c6; have c7 := hx.c7; have c8 := hx.c8; go_simp); (try with_reducible rfl))
   intro wq hwq
   subst hwq
   (try simp only [Act.put, List.setIfInBounds_toArray, List.set_cons_zero, List.set_cons_succ])
   refine wpAnyK_take (fun _ => rfl) (fun _ _ _ h k => h.trans k) (fun _ _ h k => k ▸ h) (i := 4) (oi := { dst := some 120, op := _, type := _, pos := _, after := _, guard := _ }) (v := ?_) rfl (by kernel_rfl) (by kernel_rfl) (by kernel_rfl) (fun _ _ _ h => h) (Or.inl (Or.inl ⟨by rfl, ?_⟩)) hS ?_
   rotate_left
   focus ((intro w hSw; (try dsimp only at hSw); have hx := HRX.out.later hSw; have q0 := hx.a0; have q1 := hx.a1; have p0 := hx.b0; have p1 := hx.b1; have p2 := hx.b2; have p3 := hx.b3; have c0 := hx.c0; have c1_ := hx.c1; have c2 := hx.c2; have c3 := hx.c3; have c4 := hx.c4; have c5 := hx.c5; have c6 := hx.c6; have c7 := hx.c7; have c8 := hx.c8; go_simp); (try with_reducible rfl))
   intro wq hwq
   subst hwq
   (try simp only [Act.put, List.setIfInBounds_toArray, List.set_cons_zero, List.set_cons_succ])
   refine wpAnyK_take (fun _ => rfl) (fun _ _ _ h k => h.trans k) (fun _ _ h k => k ▸ h) (i := 5) (oi := { dst := some 121, op := _, type := _, pos := _, after := _, guard := _ }) (v := ?_) rfl (by kernel_rfl) (by kernel_rfl) (by kernel_rfl) (fun _ _ _ h => h) (Or.inl (Or.inl ⟨by rfl, ?_⟩)) hS ?_
   rotate_left
   focus ((intro w hSw; (try dsimp only at hSw); have hx := HRX.out.later hSw; have q0 := hx.a0; have q1 := hx.a1; have p0 := hx.b0; have p1 := hx.b1; have p2 := hx.b2; have p3 := hx.b3; have c0 := hx.c0; have c1_ := hx.c1; have c2 := hx.c2; have c3 := hx.c3; have c4 := hx.c4; have c5 := hx.c5; have c6 := hx.c6; have c7 := hx.c7; have c8 := hx.c8; go_simp); (try with_reducible rfl))
   intro wq hwq
   subst hwq
   (try simp only [Act.put, List.setIfInBounds_toArray, List.set_cons_zero, List.set_cons_succ])
   refine wpAnyK_take (fun _ => rfl) (fun _ _ _ h k => h.trans k) (fun _ _ h k => k ▸ h) (i := 6) (oi := { dst := some 122, op := _, type := _, pos := _, after := _, guard := _ }) (v := ?_) rfl (by kernel_rfl) (by kernel_rfl) (by kernel_rfl) (fun _ _ _ h => h) (Or.inl (Or.inl ⟨by rfl, ?_⟩)) hS ?_
   rotate_left
   focus ((intro w hSw; (try dsimp only at hSw); have hx := HRX.out.later hSw; have q0 := hx.a0; have q1 := hx.a1; have p0 := hx.b0; have p1 := hx.b1; have p2 := hx.b2; have p3 := hx.b3; have c0 := hx.c0; have c1_ := hx.c1; have c2 := hx.c2; have c3 := hx.c3; have c4 := hx.c4; have c5 := hx.c5; have c6 := hx.c6; have c7 := hx.c7; have c8 := hx.c8; go_simp); (try with_reducible rfl))
   intro wq hwq
   subst hwq
   (try simp only [Act.put, List.setIfInBounds_toArray, List.set_cons_zero, List.set_cons_succ])
   refine wpAnyK_take (fun _ => rfl) (fun _ _ _ h k => h.trans k) (fun _ _ h k => k ▸ h) (i := 7) (oi := { dst := some 123, op := _, type := _, pos := _, after := _, guard := _ }) (v := ?_) rfl (by kernel_rfl) (by kernel_rfl) (by kernel_rfl) (fun _ _ _ h => h) (Or.inl (Or.inl ⟨by rfl, ?_⟩)) hS ?_
   rotate_left
   focus ((intro w hSw; (try dsimp only at hSw); have hx := HRX.out.later hSw; have q0 := hx.a0; have q1 := hx.a1; have p0 := hx.b0; have p1 := hx.b1; have p2 := hx.b2; have p3 := hx.b3; have c0 := hx.c0; have c1_ := hx.c1; have c2 := hx.c2; have c3 := hx.c3; have c4 := hx.c4; have c5 := hx.c5; have c6 := hx.c6; have c7 := hx.c7; have c8 := hx.c8; go_simp); (try with_reducible rfl))
   intro wq hwq
   subst hwq
   (try simp only [Act.put, List.setIfInBounds_toArray, List.set_cons_zero, List.set_cons_succ])
   refine wpAnyK_take (fun _ => rfl) (fun _ _ _ h k => h.trans k) (fun _ _ h k => k ▸ h) (i := 8) (oi := { dst := some 124, op := _, type := _, pos := _, after := _, guard := _ }) (v := ?_) rfl (by kernel_rfl) (by kernel_rfl) (by kernel_rfl) (fun _ _ _ h => h) (Or.inl (Or.inl ⟨by rfl, ?_⟩)) hS ?_
   rotate_left
   focus ((intro w hSw; (try dsimp only at hSw); have hx := HRX.out.later hSw; have q0 := hx.a0; have q1 := hx.a1; have p0 := hx.b0; have p1 := hx.b1; have p2 := hx.b2; have p3 := hx.b3; have c0 := hx.c0; have c1_ := hx.c1; have c2 := hx.c2; have c3 := hx.c3; have c4 := hx.c4; have c5 := hx.c5; have c6 := hx.c6; have c7 := hx.c7; have c8 := hx.c8; go_simp); (try with_reducible rfl))
   intro wq hwq
   subst hwq
   (try simp only [Act.put, List.setIfInBounds_toArray, List.set_cons_zero, List.set_cons_succ])
   refine wpAnyK_take (fun _ => rfl) (fun _ _ _ h k => h.trans k) (fun _ _ h k => k ▸ h) (i := 9) (oi := { dst := some 125, op := _, type := _, pos := _, after := _, guard := _ }) (v := ?_) rfl (by kernel_rfl) (by kernel_rfl) (by kernel_rfl) (fun _ _ _ h => h) (Or.inl (Or.inl ⟨by rfl, ?_⟩)) hS ?_
   rotate_left
   focus ((intro w hSw; (try dsimp only at hSw); have hx := HRX.out.later hSw; have q0 := hx.a0; have q1 := hx.a1; have p0 := hx.b0; have p1 := hx.b1; have p2 := hx.b2; have p3 := hx.b3; have c0 := hx.c0; have c1_ := hx.c1; have c2 := hx.c2; have c3 := hx.c3; have c4 := hx.c4; have c5 := hx.c5; have c6 := hx.c6; have c7 := hx.c7; have c8 := hx.c8; go_simp); (try with_reducible rfl))
   intro wq hwq
   subst hwq
   (try simp only [Act.put, List.setIfInBounds_toArray, List.set_cons_zero, List.set_cons_succ])
   refine wpAnyK_take (fun _ => rfl) (fun _ _ _ h k => h.trans k) (fun _ _ h k => k ▸ h) (i := 10) (oi := { dst := some 126, op := _, type := _, pos := _, after := _, guard := _ }) (v := ?_) rfl (by kernel_rfl) (by kernel_rfl) (by kernel_rfl) (fun _ _ _ h => h) (Or.inl (Or.inl ⟨by rfl, ?_⟩)) hS ?_
   rotate_left
   focus ((intro w hSw; (try dsimp only at hSw); have hx := HRX.out.later hSw; have q0 := hx.a0; have q1 := hx.a1; have p0 := hx.b0; have p1 := hx.b1; have p2 := hx.b2; have p3 := hx.b3; have c0 := hx.c0; have c1_ := hx.c1; have c2 := hx.c2; have c3 := hx.c3; have c4 := hx.c4; have c5 := hx.c5; have c6 := hx.c6; have c7 := hx.c7; have c8 := hx.c8; go_simp); (try with_reducible rfl))
   intro wq hwq
   subst hwq
   (try simp only [Act.put, List.setIfInBounds_toArray, List.set_cons_zero, List.set_cons_succ])
   refine wpAnyK_take (fun _ => rfl) (fun _ _ _ h k => h.trans k) (fun _ _ h k => k ▸ h) (i := 11) (oi := { dst := some 127, op := _, type := _, pos := _, after := _, guard := _ }) (v := ?_) rfl (by kernel_rfl) (by kernel_rfl) (by kernel_rfl) (fun _ _ _ h => h) (Or.inl (Or.inl ⟨by rfl, ?_⟩)) hS ?_
   rotate_left
   focus ((intro w hSw; (try dsimp only at hSw); have hx := HRX.out.later hSw; have q0 := hx.a0; have q1 := hx.a1; have p0 := hx.b0; have p1 := hx.b1; have p2 := hx.b2; have p3 := hx.b3; have c0 := hx.c0; have c1_ := hx.c1; have c2 := hx.c2; have c3 := hx.c3; have c4 := hx.c4; have c5 := hx.c5; have c6 := hx.c6; have c7 := hx.c7; have c8 := hx.c8; go_simp); (try with_reducible rfl))
   intro wq hwq
   subst hwq
   (try simp only [Act.put, List.setIfInBounds_toArray, List.set_cons_zero, List.set_cons_succ])
   refine wpAnyK_all (rs := [12, 17, 18]) (by kernel_rfl) (by simp) (fun i hi => ?_)
   simp only [List.mem_cons, List.not_mem_nil, or_false] at hi
   rcases hi with rfl | rfl | rfl
   ·refine stepK (o := { dst := some 128, op := _, type := _, pos := _, after := _, guard := _ }) rfl (fun K hK => ?_)
    go_simp
    refine (HAP.out _ hS).mono ?_
    intro e y1 hap
    obtain ⟨VA, vn, vcp, vlast, vsb, vpb, vparts, VE, ven, vec, vev, rfl, hv, lc⟩ := hap.v (Later.size hS)
    have HV := Lib.hid hv
    replace hS : (fun W : World => Later wc W) y1 := Later.trans hS lc
    refine hK _ _ hS fun wq hwq => ?_
    subst hwq
    clear hK hap hv lc
    (try simp only [Act.put, List.setIfInBounds_toArray, List.set_cons_zero, List.set_cons_succ])
    refine wpAnyK_take (fun _ => rfl) (fun _ _ _ h k => h.trans k) (fun _ _ h k => k ▸ h) (i := 13) (oi := { dst := some 115, op := _, type := _, pos := _, after := _, guard := _ }) (v := ?_) rfl (by kernel_rfl) (by kernel_rfl) (by kernel_rfl) (fun _ _ _ h => h) (Or.inl (Or.inl ⟨by rfl, ?_⟩)) hS ?_
    rotate_left
    focus ((intro w hSw; (try dsimp only at hSw); skip; go_simp); (try with_reducible rfl))
    intro wq hwq
    subst hwq
    (try simp only [Act.put, List.setIfInBounds_toArray, List.set_cons_zero, List.set_cons_succ])
    refine wpAnyK_take (fun _ => rfl) (fun _ _ _ h k => h.trans k) (fun _ _ h k => k ▸ h) (i := 14) (oi := { dst := some 129, op := _, type := _, pos := _, after := _, guard := _ }) (v := ?_) rfl (by kernel_rfl) (by kernel_rfl) (by kernel_rfl) (fun _ _ _ h => h) (Or.inl (Or.inl ⟨by rfl, ?_⟩)) hS ?_
    rotate_left
    focus ((intro w hSw; (try dsimp only at hSw); skip; go_simp); (try with_reducible rfl))
    intro wq hwq
    subst hwq
    (try simp only [Act.put, List.setIfInBounds_toArray, List.set_cons_zero, List.set_cons_succ])
    refine wpAnyK_take (fun _ => rfl) (fun _ _ _ h k => h.trans k) (fun _ _ h k => k ▸ h) (i := 15) (oi := { dst := some 130, op := _, type := _, pos := _, after := _, guard := _ }) (v := ?_) rfl (by kernel_rfl) (by kernel_rfl) (by kernel_rfl) (fun _ _ _ h => h) (Or.inl (Or.inl ⟨by rfl, ?_⟩)) hS ?_
    rotate_left
    focus ((intro w hSw; (try dsimp only at hSw); skip; go_simp); (try with_reducible rfl))
    intro wq hwq
    subst hwq
    (try simp only [Act.put, List.setIfInBounds_toArray, List.set_cons_zero, List.set_cons_succ])
    refine wpAnyK_take (fun _ => rfl) (fun _ _ _ h k => h.trans k) (fun _ _ h k => k ▸ h) (i := 16) (oi := { dst := some 131, op := _, type := _, pos := _, after := _, guard := _ }) (v := ?_) rfl (by kernel_rfl) (by kernel_rfl) (by kernel_rfl) (fun _ _ _ h => h) (Or.inl (Or.inl ⟨by rfl, ?_⟩)) hS ?_
    rotate_left
    focus ((intro w hSw; (try dsimp only at hSw); skip; go_simp); (try with_reducible rfl))
    intro wq hwq
    subst hwq
    (try simp only [Act.put, List.setIfInBounds_toArray, List.set_cons_zero, List.set_cons_succ])
    refine wpAnyK_all (rs := [17, 18]) (by kernel_rfl) (by simp) (fun i hi => ?_)
    simp only [List.mem_cons, List.not_mem_nil, or_false] at hi
    rcases hi with rfl | rfl
    ·refine stepK (o := { dst := some 26, op := _, type := _, pos := _, after := _, guard := _ }) rfl (fun K hK => ?_)
     go_simp
     obtain ⟨ga, hgg⟩ : ∃ x, y1.heap.size = x := ⟨_, rfl⟩
     obtain ⟨y2, hyy⟩ : ∃ x, y1.alloc (.cells zS.toArray 24) = x := ⟨_, rfl⟩
     have lc : Later y1 y2 := hyy ▸ Later.new _ _
     have HA := Lib.hid (show Blk y2 ga zS.toArray 24 from hyy ▸ Blk.new _ _ _ _ hgg.symm)
     have HGA := Lib.hid (show wc.heap.size ≤ ga from hgg ▸ Later.size hS)
     replace hS : (fun W : World => Later wc W) y2 := Later.trans hS lc
     have HV := Lib.hid (HV.out.later lc)
     try rw [hgg]
     unfold zS at hyy
     rw [hyy]
     refine hK _ _ hS fun wq hwq => ?_
     subst hwq
     clear hK lc hyy hgg
     (try simp only [Act.put, List.setIfInBounds_toArray, List.set_cons_zero, List.set_cons_succ])
     refine wpAnyK_all (rs := [18]) (by kernel_rfl) (by simp) (fun i hi => ?_)
     simp only [List.mem_cons, List.not_mem_nil, or_false] at hi
     subst hi
     refine stepK (o := { dst := some 27, op := _, type := _, pos := _, after := _, guard := _ }) rfl (fun K hK => ?_)
     go_simp
     obtain ⟨gb, hgg⟩ : ∃ x, y2.heap.size = x := ⟨_, rfl⟩
     obtain ⟨y3, hyy⟩ : ∃ x, y2.alloc (.cells zL.toArray 27) = x := ⟨_, rfl⟩
     have lc : Later y2 y3 := hyy ▸ Later.new _ _
     have HB := Lib.hid (show Blk y3 gb zL.toArray 27 from hyy ▸ Blk.new _ _ _ _ hgg.symm)
     have HGB := Lib.hid (show wc.heap.size ≤ gb from hgg ▸ Later.size hS)
     replace hS : (fun W : World => Later wc W) y3 := Later.trans hS lc
     have HV := Lib.hid (HV.out.later lc)
     have HA := Lib.hid (HA.out.later lc)
     try rw [hgg]
     unfold zL at hyy
     rw [hyy]
     refine hK _ _ hS fun wq hwq => ?_
     subst hwq
     clear hK lc hyy hgg
     (try simp only [Act.put, List.setIfInBounds_toArray, List.set_cons_zero, List.set_cons_succ])
     have hab : ga ≠ gb := ne_typ HA.out HB.out (by decide)
     refine wpAnyK_all (rs := [19]) (by kernel_rfl) (by simp) (fun i hi => ?_)
     simp only [List.mem_cons, List.not_mem_nil, or_false] at hi
     subst hi
     refine stepK (o := { dst := none, op := _, type := _, pos := _, after := _, guard := _ }) rfl (fun K hK => ?_)
     rw [if_pos (by rfl)]
     refine wp_store_mid 24 _ _ rfl ga 0 #[.slice VA vn vcp, .int .i64 vlast] rfl rfl (fun j hj => by rw [Nat.zero_add]; have hj2 : j < 2 := hj; exact ⟨by rw [cell_of_row y3 ga j _ _ _ HA.out, Array.getElem?_eq_getElem (by exact hj2)]; rfl, HA.out.frozen j⟩) (by kernel_rfl) (by simp [Value.oneCell']) ?_
     have hA2 := Blk.fill zS [.slice VA vn vcp, .int .i64 vlast] HA.out rfl
     have hB2 := HB.out.aside hab.symm 0 [.slice VA vn vcp, .int .i64 vlast]
     have hV2 := HV.out.fill HA.out (by decide) (by decide) 0 [.slice VA vn vcp, .int .i64 vlast]
     have hS : (fun W : World => Later wc W) (y3.setCells ga 0 [.slice VA vn vcp, .int .i64 vlast]) := Later.fill hS HGA.out 0 _
     refine hK _ _ hS fun wq hwq => ?_
     obtain ⟨z1, hz1⟩ : ∃ x, y3.setCells ga 0 [.slice VA vn vcp, .int .i64 vlast] = x := ⟨_, rfl⟩
     rw [hz1] at hA2 hB2 hV2 hS
     have hz2 : z1 = wq := hz1.symm.trans hwq
     subst hz2
     clear hK hwq hz1
     (try simp only [Act.put])
     refine wpAnyK_all (rs := [20]) (by kernel_rfl) (by simp) (fun i hi => ?_)
     simp only [List.mem_cons, List.not_mem_nil, or_false] at hi
     subst hi
     refine stepK (o := { dst := none, op := _, type := _, pos := _, after := _, guard := _ }) rfl (fun K hK => ?_)
     rw [if_pos (by rfl)]
     refine wp_store_mid 27 _ _ rfl gb 0 #[.int .i64 vsb, .int .i64 vpb, .int .i64 vparts, .slice VE ven vec] rfl rfl (fun j hj => by rw [Nat.zero_add]; have hj2 : j < 4 := hj; exact ⟨by rw [cell_of_row z1 gb j _ _ _ hB2, Array.getElem?_eq_getElem (by exact hj2)]; rfl, hB2.frozen j⟩) (by kernel_rfl) (by simp [Value.oneCell']) ?_
     have hB3 := Blk.fill zL [.int .i64 vsb, .int .i64 vpb, .int .i64 vparts, .slice VE ven vec] hB2 rfl
     have hA3 := hA2.aside hab 0 [.int .i64 vsb, .int .i64 vpb, .int .i64 vparts, .slice VE ven vec]
     have hV3 := hV2.fill hB2 (by decide) (by decide) 0 [.int .i64 vsb, .int .i64 vpb, .int .i64 vparts, .slice VE ven vec]
     have hS : (fun W : World => Later wc W) (z1.setCells gb 0 [.int .i64 vsb, .int .i64 vpb, .int .i64 vparts, .slice VE ven vec]) := Later.fill hS HGB.out 0 _
     refine hK _ _ hS fun wq hwq => ?_
     obtain ⟨z2, hz1⟩ : ∃ x, z1.setCells gb 0 [.int .i64 vsb, .int .i64 vpb, .int .i64 vparts, .slice VE ven vec] = x := ⟨_, rfl⟩
     rw [hz1] at hA3 hB3 hV3 hS
     have hz2 : z2 = wq := hz1.symm.trans hwq
     subst hz2
     clear hK hwq hz1 hA2 hB2 hV2
     (try simp only [Act.put])
     refine wpAnyK_take (fun _ => rfl) (fun _ _ _ h k => h.trans k) (fun _ _ h k => k ▸ h) (i := 21) (oi := { dst := some 28, op := _, type := _, pos := _, after := _, guard := _ }) (v := ?_) rfl (by kernel_rfl) (by kernel_rfl) (by kernel_rfl) (fun _ _ _ h => h) (Or.inl (Or.inl ⟨by rfl, ?_⟩)) hS ?_
     rotate_left
     focus ((intro w hSw; (try dsimp only at hSw); skip; go_simp); (try with_reducible rfl))
     intro wq hwq
     subst hwq
     (try simp only [Act.put, List.setIfInBounds_toArray, List.set_cons_zero, List.set_cons_succ])
     refine wpAnyK_done (by kernel_rfl) ?_ _
     go_wp2_with fail
     go_meet
     exact ⟨ga, gb, VA, vn, vcp, vlast, vsb, vpb, vparts, VE, ven, vec, vev, rfl, rfl, rfl, hV3, hA3, hB3, hab, HGA.out, HGB.out, hS⟩
    ·refine stepK (o := { dst := some 27, op := _, type := _, pos := _, after := _, guard := _ }) rfl (fun K hK => ?_)
     go_simp
     obtain ⟨gb, hgg⟩ : ∃ x, y1.heap.size = x := ⟨_, rfl⟩
     obtain ⟨y2, hyy⟩ : ∃ x, y1.alloc (.cells zL.toArray 27) = x := ⟨_, rfl⟩
     have lc : Later y1 y2 := hyy ▸ Later.new _ _
     have HB := Lib.hid (show Blk y2 gb zL.toArray 27 from hyy ▸ Blk.new _ _ _ _ hgg.symm)
     have HGB := Lib.hid (show wc.heap.size ≤ gb from hgg ▸ Later.size hS)
     replace hS : (fun W : World => Later wc W) y2 := Later.trans hS lc
     have HV := Lib.hid (HV.out.later lc)
     try rw [hgg]
     unfold zL at hyy
     rw [hyy]
     refine hK _ _ hS fun wq hwq => ?_
     subst hwq
     clear hK lc hyy hgg
     (try simp only [Act.put, List.setIfInBounds_toArray, List.set_cons_zero, List.set_cons_succ])
     refine wpAnyK_all (rs := [17]) (by kernel_rfl) (by simp) (fun i hi => ?_)
     simp only [List.mem_cons, List.not_mem_nil, or_false] at hi
     subst hi
     refine stepK (o := { dst := some 26, op := _, type := _, pos := _, after := _, guard := _ }) rfl (fun K hK => ?_)
     go_simp
     obtain ⟨ga, hgg⟩ : ∃ x, y2.heap.size = x := ⟨_, rfl⟩
     obtain ⟨y3, hyy⟩ : ∃ x, y2.alloc (.cells zS.toArray 24) = x := ⟨_, rfl⟩
     have lc : Later y2 y3 := hyy ▸ Later.new _ _
     have HA := Lib.hid (show Blk y3 ga zS.toArray 24 from hyy ▸ Blk.new _ _ _ _ hgg.symm)
     have HGA := Lib.hid (show wc.heap.size ≤ ga from hgg ▸ Later.size hS)
     replace hS : (fun W : World => Later wc W) y3 := Later.trans hS lc
     have HV := Lib.hid (HV.out.later lc)
     have HB := Lib.hid (HB.out.later lc)
     try rw [hgg]
     unfold zS at hyy
     rw [hyy]
     refine hK _ _ hS fun wq hwq => ?_
     subst hwq
     clear hK lc hyy hgg
     (try simp only [Act.put, List.setIfInBounds_toArray, List.set_cons_zero, List.set_cons_succ])
     have hab : ga ≠ gb := ne_typ HA.out HB.out (by decide)
     refine wpAnyK_all (rs := [19]) (by kernel_rfl) (by simp) (fun i hi => ?_)
     simp only [List.mem_cons, List.not_mem_nil, or_false] at hi
     subst hi
     refine stepK (o := { dst := none, op := _, type := _, pos := _, after := _, guard := _ }) rfl (fun K hK => ?_)
     rw [if_pos (by rfl)]
     refine wp_store_mid 24 _ _ rfl ga 0 #[.slice VA vn vcp, .int .i64 vlast] rfl rfl (fun j hj => by rw [Nat.zero_add]; have hj2 : j < 2 := hj; exact ⟨by rw [cell_of_row y3 ga j _ _ _ HA.out, Array.getElem?_eq_getElem (by exact hj2)]; rfl, HA.out.frozen j⟩) (by kernel_rfl) (by simp [Value.oneCell']) ?_
     have hA2 := Blk.fill zS [.slice VA vn vcp, .int .i64 vlast] HA.out rfl
     have hB2 := HB.out.aside hab.symm 0 [.slice VA vn vcp, .int .i64 vlast]
     have hV2 := HV.out.fill HA.out (by decide) (by decide) 0 [.slice VA vn vcp, .int .i64 vlast]
     have hS : (fun W : World => Later wc W) (y3.setCells ga 0 [.slice VA vn vcp, .int .i64 vlast]) := Later.fill hS HGA.out 0 _
     refine hK _ _ hS fun wq hwq => ?_
     obtain ⟨z1, hz1⟩ : ∃ x, y3.setCells ga 0 [.slice VA vn vcp, .int .i64 vlast] = x := ⟨_, rfl⟩
     rw [hz1] at hA2 hB2 hV2 hS
     have hz2 : z1 = wq := hz1.symm.trans hwq
     subst hz2
     clear hK hwq hz1
     (try simp only [Act.put])
     refine wpAnyK_all (rs := [20]) (by kernel_rfl) (by simp) (fun i hi => ?_)
     simp only [List.mem_cons, List.not_mem_nil, or_false] at hi
     subst hi
     refine stepK (o := { dst := none, op := _, type := _, pos := _, after := _, guard := _ }) rfl (fun K hK => ?_)
     rw [if_pos (by rfl)]
     refine wp_store_mid 27 _ _ rfl gb 0 #[.int .i64 vsb, .int .i64 vpb, .int .i64 vparts, .slice VE ven vec] rfl rfl (fun j hj => by rw [Nat.zero_add]; have hj2 : j < 4 := hj; exact ⟨by rw [cell_of_row z1 gb j _ _ _ hB2, Array.getElem?_eq_getElem (by exact hj2)]; rfl, hB2.frozen j⟩) (by kernel_rfl) (by simp [Value.oneCell']) ?_
     have hB3 := Blk.fill zL [.int .i64 vsb, .int .i64 vpb, .int .i64 vparts, .slice VE ven vec] hB2 rfl
     have hA3 := hA2.aside hab 0 [.int .i64 vsb, .int .i64 vpb, .int .i64 vparts, .slice VE ven vec]
     have hV3 := hV2.fill hB2 (by decide) (by decide) 0 [.int .i64 vsb, .int .i64 vpb, .int .i64 vparts, .slice VE ven vec]
     have hS : (fun W : World => Later wc W) (z1.setCells gb 0 [.int .i64 vsb, .int .i64 vpb, .int .i64 vparts, .slice VE ven vec]) := Later.fill hS HGB.out 0 _
     refine hK _ _ hS fun wq hwq => ?_
     obtain ⟨z2, hz1⟩ : ∃ x, z1.setCells gb 0 [.int .i64 vsb, .int .i64 vpb, .int .i64 vparts, .slice VE ven vec] = x := ⟨_, rfl⟩
     rw [hz1] at hA3 hB3 hV3 hS
     have hz2 : z2 = wq := hz1.symm.trans hwq
     subst hz2
     clear hK hwq hz1 hA2 hB2 hV2
     (try simp only [Act.put])
     refine wpAnyK_take (fun _ => rfl) (fun _ _ _ h k => h.trans k) (fun _ _ h k => k ▸ h) (i := 21) (oi := { dst := some 28, op := _, type := _, pos := _, after := _, guard := _ }) (v := ?_) rfl (by kernel_rfl) (by kernel_rfl) (by kernel_rfl) (fun _ _ _ h => h) (Or.inl (Or.inl ⟨by rfl, ?_⟩)) hS ?_
     rotate_left
     focus ((intro w hSw; (try dsimp only at hSw); skip; go_simp); (try with_reducible rfl))
     intro wq hwq
     subst hwq
     (try simp only [Act.put, List.setIfInBounds_toArray, List.set_cons_zero, List.set_cons_succ])
     refine wpAnyK_done (by kernel_rfl) ?_ _
     go_wp2_with fail
     go_meet
     exact ⟨ga, gb, VA, vn, vcp, vlast, vsb, vpb, vparts, VE, ven, vec, vev, rfl, rfl, rfl, hV3, hA3, hB3, hab, HGA.out, HGB.out, hS⟩
   ·refine stepK (o := { dst := some 26, op := _, type := _, pos := _, after := _, guard := _ }) rfl (fun K hK => ?_)
    go_simp
    obtain ⟨ga, hgg⟩ : ∃ x, y0.heap.size = x := ⟨_, rfl⟩
    obtain ⟨y1, hyy⟩ : ∃ x, y0.alloc (.cells zS.toArray 24) = x := ⟨_, rfl⟩
    have lc : Later y0 y1 := hyy ▸ Later.new _ _
    have HA := Lib.hid (show Blk y1 ga zS.toArray 24 from hyy ▸ Blk.new _ _ _ _ hgg.symm)
    have HGA := Lib.hid (show wc.heap.size ≤ ga from hgg ▸ Later.size hS)
    replace hS : (fun W : World => Later wc W) y1 := Later.trans hS lc
    try rw [hgg]
    unfold zS at hyy
    rw [hyy]
    refine hK _ _ hS fun wq hwq => ?_
    subst hwq
    clear hK lc hyy hgg
    (try simp only [Act.put, List.setIfInBounds_toArray, List.set_cons_zero, List.set_cons_succ])
    refine wpAnyK_all (rs := [12, 18]) (by kernel_rfl) (by simp) (fun i hi => ?_)
    simp only [List.mem_cons, List.not_mem_nil, or_false] at hi
    rcases hi with rfl | rfl
    ·refine stepK (o := { dst := some 128, op := _, type := _, pos := _, after := _, guard := _ }) rfl (fun K hK => ?_)
     go_simp
     refine (HAP.out _ hS).mono ?_
     intro e y2 hap
     obtain ⟨VA, vn, vcp, vlast, vsb, vpb, vparts, VE, ven, vec, vev, rfl, hv, lc⟩ := hap.v (Later.size hS)
     have HV := Lib.hid hv
     replace hS : (fun W : World => Later wc W) y2 := Later.trans hS lc
     have HA := Lib.hid (HA.out.later lc)
     refine hK _ _ hS fun wq hwq => ?_
     subst hwq
     clear hK hap hv lc
     (try simp only [Act.put, List.setIfInBounds_toArray, List.set_cons_zero, List.set_cons_succ])
     refine wpAnyK_take (fun _ => rfl) (fun _ _ _ h k => h.trans k) (fun _ _ h k => k ▸ h) (i := 13) (oi := { dst := some 115, op := _, type := _, pos := _, after := _, guard := _ }) (v := ?_) rfl (by kernel_rfl) (by kernel_rfl) (by kernel_rfl) (fun _ _ _ h => h) (Or.inl (Or.inl ⟨by rfl, ?_⟩)) hS ?_
     rotate_left
     focus ((intro w hSw; (try dsimp only at hSw); skip; go_simp); (try with_reducible rfl))
     intro wq hwq
     subst hwq
     (try simp only [Act.put, List.setIfInBounds_toArray, List.set_cons_zero, List.set_cons_succ])
     refine wpAnyK_take (fun _ => rfl) (fun _ _ _ h k => h.trans k) (fun _ _ h k => k ▸ h) (i := 14) (oi := { dst := some 129, op := _, type := _, pos := _, after := _, guard := _ }) (v := ?_) rfl (by kernel_rfl) (by kernel_rfl) (by kernel_rfl) (fun _ _ _ h => h) (Or.inl (Or.inl ⟨by rfl, ?_⟩)) hS ?_
     rotate_left
     focus ((intro w hSw; (try dsimp only at hSw); skip; go_simp); (try with_reducible rfl))
     intro wq hwq
     subst hwq
     (try simp only [Act.put, List.setIfInBounds_toArray, List.set_cons_zero, List.set_cons_succ])
     refine wpAnyK_take (fun _ => rfl) (fun _ _ _ h k => h.trans k) (fun _ _ h k => k ▸ h) (i := 15) (oi := { dst := some 130, op := _, type := _, pos := _, after := _, guard := _ }) (v := ?_) rfl (by kernel_rfl) (by kernel_rfl) (by kernel_rfl) (fun _ _ _ h => h) (Or.inl (Or.inl ⟨by rfl, ?_⟩)) hS ?_
     rotate_left
     focus ((intro w hSw; (try dsimp only at hSw); skip; go_simp); (try with_reducible rfl))
     intro wq hwq
     subst hwq
     (try simp only [Act.put, List.setIfInBounds_toArray, List.set_cons_zero, List.set_cons_succ])
     refine wpAnyK_take (fun _ => rfl) (fun _ _ _ h k => h.trans k) (fun _ _ h k => k ▸ h) (i := 16) (oi := { dst := some 131, op := _, type := _, pos := _, after := _, guard := _ }) (v := ?_) rfl (by kernel_rfl) (by kernel_rfl) (by kernel_rfl) (fun _ _ _ h => h) (Or.inl (Or.inl ⟨by rfl, ?_⟩)) hS ?_
     rotate_left
     focus ((intro w hSw; (try dsimp only at hSw); skip; go_simp); (try with_reducible rfl))
     intro wq hwq
     subst hwq
     (try simp only [Act.put, List.setIfInBounds_toArray, List.set_cons_zero, List.set_cons_succ])
     refine wpAnyK_all (rs := [18]) (by kernel_rfl) (by simp) (fun i hi => ?_)
     simp only [List.mem_cons, List.not_mem_nil, or_false] at hi
     subst hi
     refine stepK (o := { dst := some 27, op := _, type := _, pos := _, after := _, guard := _ }) rfl (fun K hK => ?_)
     go_simp
     obtain ⟨gb, hgg⟩ : ∃ x, y2.heap.size = x := ⟨_, rfl⟩
     obtain ⟨y3, hyy⟩ : ∃ x, y2.alloc (.cells zL.toArray 27) = x := ⟨_, rfl⟩
     have lc : Later y2 y3 := hyy ▸ Later.new _ _
     have HB := Lib.hid (show Blk y3 gb zL.toArray 27 from hyy ▸ Blk.new _ _ _ _ hgg.symm)
     have HGB := Lib.hid (show wc.heap.size ≤ gb from hgg ▸ Later.size hS)
     replace hS : (fun W : World => Later wc W) y3 := Later.trans hS lc
     have HV := Lib.hid (HV.out.later lc)
     have HA := Lib.hid (HA.out.later lc)
     try rw [hgg]
     unfold zL at hyy
     rw [hyy]
     refine hK _ _ hS fun wq hwq => ?_
     subst hwq
     clear hK lc hyy hgg
     (try simp only [Act.put, List.setIfInBounds_toArray, List.set_cons_zero, List.set_cons_succ])
     have hab : ga ≠ gb := ne_typ HA.out HB.out (by decide)
     refine wpAnyK_all (rs := [19]) (by kernel_rfl) (by simp) (fun i hi => ?_)
     simp only [List.mem_cons, List.not_mem_nil, or_false] at hi
     subst hi
     refine stepK (o := { dst := none, op := _, type := _, pos := _, after := _, guard := _ }) rfl (fun K hK => ?_)
     rw [if_pos (by rfl)]
     refine wp_store_mid 24 _ _ rfl ga 0 #[.slice VA vn vcp, .int .i64 vlast] rfl rfl (fun j hj => by rw [Nat.zero_add]; have hj2 : j < 2 := hj; exact ⟨by rw [cell_of_row y3 ga j _ _ _ HA.out, Array.getElem?_eq_getElem (by exact hj2)]; rfl, HA.out.frozen j⟩) (by kernel_rfl) (by simp [Value.oneCell']) ?_
     have hA2 := Blk.fill zS [.slice VA vn vcp, .int .i64 vlast] HA.out rfl
     have hB2 := HB.out.aside hab.symm 0 [.slice VA vn vcp, .int .i64 vlast]
     have hV2 := HV.out.fill HA.out (by decide) (by decide) 0 [.slice VA vn vcp, .int .i64 vlast]
     have hS : (fun W : World => Later wc W) (y3.setCells ga 0 [.slice VA vn vcp, .int .i64 vlast]) := Later.fill hS HGA.out 0 _
     refine hK _ _ hS fun wq hwq => ?_
     obtain ⟨z1, hz1⟩ : ∃ x, y3.setCells ga 0 [.slice VA vn vcp, .int .i64 vlast] = x := ⟨_, rfl⟩
     rw [hz1] at hA2 hB2 hV2 hS
     have hz2 : z1 = wq := hz1.symm.trans hwq
     subst hz2
     clear hK hwq hz1
     (try simp only [Act.put])
     refine wpAnyK_all (rs := [20]) (by kernel_rfl) (by simp) (fun i hi => ?_)
     simp only [List.mem_cons, List.not_mem_nil, or_false] at hi
     subst hi
     refine stepK (o := { dst := none, op := _, type := _, pos := _, after := _, guard := _ }) rfl (fun K hK => ?_)
     rw [if_pos (by rfl)]
     refine wp_store_mid 27 _ _ rfl gb 0 #[.int .i64 vsb, .int .i64 vpb, .int .i64 vparts, .slice VE ven vec] rfl rfl (fun j hj => by rw [Nat.zero_add]; have hj2 : j < 4 := hj; exact ⟨by rw [cell_of_row z1 gb j _ _ _ hB2, Array.getElem?_eq_getElem (by exact hj2)]; rfl, hB2.frozen j⟩) (by kernel_rfl) (by simp [Value.oneCell']) ?_
     have hB3 := Blk.fill zL [.int .i64 vsb, .int .i64 vpb, .int .i64 vparts, .slice VE ven vec] hB2 rfl
     have hA3 := hA2.aside hab 0 [.int .i64 vsb, .int .i64 vpb, .int .i64 vparts, .slice VE ven vec]
     have hV3 := hV2.fill hB2 (by decide) (by decide) 0 [.int .i64 vsb, .int .i64 vpb, .int .i64 vparts, .slice VE ven vec]
     have hS : (fun W : World => Later wc W) (z1.setCells gb 0 [.int .i64 vsb, .int .i64 vpb, .int .i64 vparts, .slice VE ven vec]) := Later.fill hS HGB.out 0 _
     refine hK _ _ hS fun wq hwq => ?_
     obtain ⟨z2, hz1⟩ : ∃ x, z1.setCells gb 0 [.int .i64 vsb, .int .i64 vpb, .int .i64 vparts, .slice VE ven vec] = x := ⟨_, rfl⟩
     rw [hz1] at hA3 hB3 hV3 hS
     have hz2 : z2 = wq := hz1.symm.trans hwq
     subst hz2
     clear hK hwq hz1 hA2 hB2 hV2
     (try simp only [Act.put])
     refine wpAnyK_take (fun _ => rfl) (fun _ _ _ h k => h.trans k) (fun _ _ h k => k ▸ h) (i := 21) (oi := { dst := some 28, op := _, type := _, pos := _, after := _, guard := _ }) (v := ?_) rfl (by kernel_rfl) (by kernel_rfl) (by kernel_rfl) (fun _ _ _ h => h) (Or.inl (Or.inl ⟨by rfl, ?_⟩)) hS ?_
     rotate_left
     focus ((intro w hSw; (try dsimp only at hSw); skip; go_simp); (try with_reducible rfl))
     intro wq hwq
     subst hwq
     (try simp only [Act.put, List.setIfInBounds_toArray, List.set_cons_zero, List.set_cons_succ])
     refine wpAnyK_done (by kernel_rfl) ?_ _
     go_wp2_with fail
     go_meet
     exact ⟨ga, gb, VA, vn, vcp, vlast, vsb, vpb, vparts, VE, ven, vec, vev, rfl, rfl, rfl, hV3, hA3, hB3, hab, HGA.out, HGB.out, hS⟩
    ·refine stepK (o := { dst := some 27, op := _, type := _, pos := _, after := _, guard := _ }) rfl (fun K hK => ?_)
     go_simp
     obtain ⟨gb, hgg⟩ : ∃ x, y1.heap.size = x := ⟨_, rfl⟩
     obtain ⟨y2, hyy⟩ : ∃ x, y1.alloc (.cells zL.toArray 27) = x := ⟨_, rfl⟩
     have lc : Later y1 y2 := hyy ▸ Later.new _ _
     have HB := Lib.hid (show Blk y2 gb zL.toArray 27 from hyy ▸ Blk.new _ _ _ _ hgg.symm)
     have HGB := Lib.hid (show wc.heap.size ≤ gb from hgg ▸ Later.size hS)
     replace hS : (fun W : World => Later wc W) y2 := Later.trans hS lc
     have HA := Lib.hid (HA.out.later lc)
     try rw [hgg]
     unfold zL at hyy
     rw [hyy]
     refine hK _ _ hS fun wq hwq => ?_
     subst hwq
     clear hK lc hyy hgg
     (try simp only [Act.put, List.setIfInBounds_toArray, List.set_cons_zero, List.set_cons_succ])
     refine wpAnyK_all (rs := [12]) (by kernel_rfl) (by simp) (fun i hi => ?_)
     simp only [List.mem_cons, List.not_mem_nil, or_false] at hi
     subst hi
     refine stepK (o := { dst := some 128, op := _, type := _, pos := _, after := _, guard := _ }) rfl (fun K hK => ?_)
     go_simp
     refine (HAP.out _ hS).mono ?_
     intro e y3 hap
     obtain ⟨VA, vn, vcp, vlast, vsb, vpb, vparts, VE, ven, vec, vev, rfl, hv, lc⟩ := hap.v (Later.size hS)
     have HV := Lib.hid hv
     replace hS : (fun W : World => Later wc W) y3 := Later.trans hS lc
     have HA := Lib.hid (HA.out.later lc)
     have HB := Lib.hid (HB.out.later lc)
     refine hK _ _ hS fun wq hwq => ?_
     subst hwq
     clear hK hap hv lc
     (try simp only [Act.put, List.setIfInBounds_toArray, List.set_cons_zero, List.set_cons_succ])
     refine wpAnyK_take (fun _ => rfl) (fun _ _ _ h k => h.trans k) (fun _ _ h k => k ▸ h) (i := 13) (oi := { dst := some 115, op := _, type := _, pos := _, after := _, guard := _ }) (v := ?_) rfl (by kernel_rfl) (by kernel_rfl) (by kernel_rfl) (fun _ _ _ h => h) (Or.inl (Or.inl ⟨by rfl, ?_⟩)) hS ?_
     rotate_left
     focus ((intro w hSw; (try dsimp only at hSw); skip; go_simp); (try with_reducible rfl))
     intro wq hwq
     subst hwq
     (try simp only [Act.put, List.setIfInBounds_toArray, List.set_cons_zero, List.set_cons_succ])
     refine wpAnyK_take (fun _ => rfl) (fun _ _ _ h k => h.trans k) (fun _ _ h k => k ▸ h) (i := 14) (oi := { dst := some 129, op := _, type := _, pos := _, after := _, guard := _ }) (v := ?_) rfl (by kernel_rfl) (by kernel_rfl) (by kernel_rfl) (fun _ _ _ h => h) (Or.inl (Or.inl ⟨by rfl, ?_⟩)) hS ?_
     rotate_left
     focus ((intro w hSw; (try dsimp only at hSw); skip; go_simp); (try with_reducible rfl))
     intro wq hwq
     subst hwq
     (try simp only [Act.put, List.setIfInBounds_toArray, List.set_cons_zero, List.set_cons_succ])
     refine wpAnyK_take (fun _ => rfl) (fun _ _ _ h k => h.trans k) (fun _ _ h k => k ▸ h) (i := 15) (oi := { dst := some 130, op := _, type := _, pos := _, after := _, guard := _ }) (v := ?_) rfl (by kernel_rfl) (by kernel_rfl) (by kernel_rfl) (fun _ _ _ h => h) (Or.inl (Or.inl ⟨by rfl, ?_⟩)) hS ?_
     rotate_left
     focus ((intro w hSw; (try dsimp only at hSw); skip; go_simp); (try with_reducible rfl))
     intro wq hwq
     subst hwq
     (try simp only [Act.put, List.setIfInBounds_toArray, List.set_cons_zero, List.set_cons_succ])
     refine wpAnyK_take (fun _ => rfl) (fun _ _ _ h k => h.trans k) (fun _ _ h k => k ▸ h) (i := 16) (oi := { dst := some 131, op := _, type := _, pos := _, after := _, guard := _ }) (v := ?_) rfl (by kernel_rfl) (by kernel_rfl) (by kernel_rfl) (fun _ _ _ h => h) (Or.inl (Or.inl ⟨by rfl, ?_⟩)) hS ?_
     rotate_left
     focus ((intro w hSw; (try dsimp only at hSw); skip; go_simp); (try with_reducible rfl))
     intro wq hwq
     subst hwq
     (try simp only [Act.put, List.setIfInBounds_toArray, List.set_cons_zero, List.set_cons_succ])
     have hab : ga ≠ gb := ne_typ HA.out HB.out (by decide)
     refine wpAnyK_all (rs := [19]) (by kernel_rfl) (by simp) (fun i hi => ?_)
     simp only [List.mem_cons, List.not_mem_nil, or_false] at hi
     subst hi
     refine stepK (o := { dst := none, op := _, type := _, pos := _, after := _, guard := _ }) rfl (fun K hK => ?_)
     rw [if_pos (by rfl)]
     refine wp_store_mid 24 _ _ rfl ga 0 #[.slice VA vn vcp, .int .i64 vlast] rfl rfl (fun j hj => by rw [Nat.zero_add]; have hj2 : j < 2 := hj; exact ⟨by rw [cell_of_row y3 ga j _ _ _ HA.out, Array.getElem?_eq_getElem (by exact hj2)]; rfl, HA.out.frozen j⟩) (by kernel_rfl) (by simp [Value.oneCell']) ?_
     have hA2 := Blk.fill zS [.slice VA vn vcp, .int .i64 vlast] HA.out rfl
     have hB2 := HB.out.aside hab.symm 0 [.slice VA vn vcp, .int .i64 vlast]
     have hV2 := HV.out.fill HA.out (by decide) (by decide) 0 [.slice VA vn vcp, .int .i64 vlast]
     have hS : (fun W : World => Later wc W) (y3.setCells ga 0 [.slice VA vn vcp, .int .i64 vlast]) := Later.fill hS HGA.out 0 _
     refine hK _ _ hS fun wq hwq => ?_
     obtain ⟨z1, hz1⟩ : ∃ x, y3.setCells ga 0 [.slice VA vn vcp, .int .i64 vlast] = x := ⟨_, rfl⟩
     rw [hz1] at hA2 hB2 hV2 hS
     have hz2 : z1 = wq := hz1.symm.trans hwq
     subst hz2
     clear hK hwq hz1
     (try simp only [Act.put])
     refine wpAnyK_all (rs := [20]) (by kernel_rfl) (by simp) (fun i hi => ?_)
     simp only [List.mem_cons, List.not_mem_nil, or_false] at hi
     subst hi
     refine stepK (o := { dst := none, op := _, type := _, pos := _, after := _, guard := _ }) rfl (fun K hK => ?_)
     rw [if_pos (by rfl)]
     refine wp_store_mid 27 _ _ rfl gb 0 #[.int .i64 vsb, .int .i64 vpb, .int .i64 vparts, .slice VE ven vec] rfl rfl (fun j hj => by rw [Nat.zero_add]; have hj2 : j < 4 := hj; exact ⟨by rw [cell_of_row z1 gb j _ _ _ hB2, Array.getElem?_eq_getElem (by exact hj2)]; rfl, hB2.frozen j⟩) (by kernel_rfl) (by simp [Value.oneCell']) ?_
     have hB3 := Blk.fill zL [.int .i64 vsb, .int .i64 vpb, .int .i64 vparts, .slice VE ven vec] hB2 rfl
     have hA3 := hA2.aside hab 0 [.int .i64 vsb, .int .i64 vpb, .int .i64 vparts, .slice VE ven vec]
     have hV3 := hV2.fill hB2 (by decide) (by decide) 0 [.int .i64 vsb, .int .i64 vpb, .int .i64 vparts, .slice VE ven vec]
     have hS : (fun W : World => Later wc W) (z1.setCells gb 0 [.int .i64 vsb, .int .i64 vpb, .int .i64 vparts, .slice VE ven vec]) := Later.fill hS HGB.out 0 _
     refine hK _ _ hS fun wq hwq => ?_
     obtain ⟨z2, hz1⟩ : ∃ x, z1.setCells gb 0 [.int .i64 vsb, .int .i64 vpb, .int .i64 vparts, .slice VE ven vec] = x := ⟨_, rfl⟩
     rw [hz1] at hA3 hB3 hV3 hS
     have hz2 : z2 = wq := hz1.symm.trans hwq
     subst hz2
     clear hK hwq hz1 hA2 hB2 hV2
     (try simp only [Act.put])
     refine wpAnyK_take (fun _ => rfl) (fun _ _ _ h k => h.trans k) (fun _ _ h k => k ▸ h) (i := 21) (oi := { dst := some 28, op := _, type := _, pos := _, after := _, guard := _ }) (v := ?_) rfl (by kernel_rfl) (by kernel_rfl) (by kernel_rfl) (fun _ _ _ h => h) (Or.inl (Or.inl ⟨by rfl, ?_⟩)) hS ?_
     rotate_left
     focus ((intro w hSw; (try dsimp only at hSw); skip; go_simp); (try with_reducible rfl))
     intro wq hwq
     subst hwq
     (try simp only [Act.put, List.setIfInBounds_toArray, List.set_cons_zero, List.set_cons_succ])
     refine wpAnyK_done (by kernel_rfl) ?_ _
     go_wp2_with fail
     go_meet
     exact ⟨ga, gb, VA, vn, vcp, vlast, vsb, vpb, vparts, VE, ven, vec, vev, rfl, rfl, rfl, hV3, hA3, hB3, hab, HGA.out, HGB.out, hS⟩
   ·refine stepK (o := { dst := some 27, op := _, type := _, pos := _, after := _, guard := _ }) rfl (fun K hK => ?_)
    go_simp
    obtain ⟨gb, hgg⟩ : ∃ x, y0.heap.size = x := ⟨_, rfl⟩
    obtain ⟨y1, hyy⟩ : ∃ x, y0.alloc (.cells zL.toArray 27) = x := ⟨_, rfl⟩
    have lc : Later y0 y1 := hyy ▸ Later.new _ _
    have HB := Lib.hid (show Blk y1 gb zL.toArray 27 from hyy ▸ Blk.new _ _ _ _ hgg.symm)
    have HGB := Lib.hid (show wc.heap.size ≤ gb from hgg ▸ Later.size hS)
    replace hS : (fun W : World => Later wc W) y1 := Later.trans hS lc
    try rw [hgg]
    unfold zL at hyy
    rw [hyy]
    refine hK _ _ hS fun wq hwq => ?_
    subst hwq
    clear hK lc hyy hgg
    (try simp only [Act.put, List.setIfInBounds_toArray, List.set_cons_zero, List.set_cons_succ])
    refine wpAnyK_all (rs := [12, 17]) (by kernel_rfl) (by simp) (fun i hi => ?_)
    simp only [List.mem_cons, List.not_mem_nil, or_false] at hi
    rcases hi with rfl | rfl
    ·refine stepK (o := { dst := some 128, op := _, type := _, pos := _, after := _, guard := _ }) rfl (fun K hK => ?_)
     go_simp
     refine (HAP.out _ hS).mono ?_
     intro e y2 hap
     obtain ⟨VA, vn, vcp, vlast, vsb, vpb, vparts, VE, ven, vec, vev, rfl, hv, lc⟩ := hap.v (Later.size hS)
     have HV := Lib.hid hv
     replace hS : (fun W : World => Later wc W) y2 := Later.trans hS lc
     have HB := Lib.hid (HB.out.later lc)
     refine hK _ _ hS fun wq hwq => ?_
     subst hwq
     clear hK hap hv lc
     (try simp only [Act.put, List.setIfInBounds_toArray, List.set_cons_zero, List.set_cons_succ])
     refine wpAnyK_take (fun _ => rfl) (fun _ _ _ h k => h.trans k) (fun _ _ h k => k ▸ h) (i := 13) (oi := { dst := some 115, op := _, type := _, pos := _, after := _, guard := _ }) (v := ?_) rfl (by kernel_rfl) (by kernel_rfl) (by kernel_rfl) (fun _ _ _ h => h) (Or.inl (Or.inl ⟨by rfl, ?_⟩)) hS ?_
     rotate_left
     focus ((intro w hSw; (try dsimp only at hSw); skip; go_simp); (try with_reducible rfl))
     intro wq hwq
     subst hwq
     (try simp only [Act.put, List.setIfInBounds_toArray, List.set_cons_zero, List.set_cons_succ])
     refine wpAnyK_take (fun _ => rfl) (fun _ _ _ h k => h.trans k) (fun _ _ h k => k ▸ h) (i := 14) (oi := { dst := some 129, op := _, type := _, pos := _, after := _, guard := _ }) (v := ?_) rfl (by kernel_rfl) (by kernel_rfl) (by kernel_rfl) (fun _ _ _ h => h) (Or.inl (Or.inl ⟨by rfl, ?_⟩)) hS ?_
     rotate_left
     focus ((intro w hSw; (try dsimp only at hSw); skip; go_simp); (try with_reducible rfl))
     intro wq hwq
     subst hwq
     (try simp only [Act.put, List.setIfInBounds_toArray, List.set_cons_zero, List.set_cons_succ])
     refine wpAnyK_take (fun _ => rfl) (fun _ _ _ h k => h.trans k) (fun _ _ h k => k ▸ h) (i := 15) (oi := { dst := some 130, op := _, type := _, pos := _, after := _, guard := _ }) (v := ?_) rfl (by kernel_rfl) (by kernel_rfl) (by kernel_rfl) (fun _ _ _ h => h) (Or.inl (Or.inl ⟨by rfl, ?_⟩)) hS ?_
     rotate_left
     focus ((intro w hSw; (try dsimp only at hSw); skip; go_simp); (try with_reducible rfl))
     intro wq hwq
     subst hwq
     (try simp only [Act.put, List.setIfInBounds_toArray, List.set_cons_zero, List.set_cons_succ])
     refine wpAnyK_take (fun _ => rfl) (fun _ _ _ h k => h.trans k) (fun _ _ h k => k ▸ h) (i := 16) (oi := { dst := some 131, op := _, type := _, pos := _, after := _, guard := _ }) (v := ?_) rfl (by kernel_rfl) (by kernel_rfl) (by kernel_rfl) (fun _ _ _ h => h) (Or.inl (Or.inl ⟨by rfl, ?_⟩)) hS ?_
     rotate_left
     focus ((intro w hSw; (try dsimp only at hSw); skip; go_simp); (try with_reducible rfl))
     intro wq hwq
     subst hwq
     (try simp only [Act.put, List.setIfInBounds_toArray, List.set_cons_zero, List.set_cons_succ])
     refine wpAnyK_all (rs := [17]) (by kernel_rfl) (by simp) (fun i hi => ?_)
     simp only [List.mem_cons, List.not_mem_nil, or_false] at hi
     subst hi
     refine stepK (o := { dst := some 26, op := _, type := _, pos := _, after := _, guard := _ }) rfl (fun K hK => ?_)
     go_simp
     obtain ⟨ga, hgg⟩ : ∃ x, y2.heap.size = x := ⟨_, rfl⟩
     obtain ⟨y3, hyy⟩ : ∃ x, y2.alloc (.cells zS.toArray 24) = x := ⟨_, rfl⟩
     have lc : Later y2 y3 := hyy ▸ Later.new _ _
     have HA := Lib.hid (show Blk y3 ga zS.toArray 24 from hyy ▸ Blk.new _ _ _ _ hgg.symm)
     have HGA := Lib.hid (show wc.heap.size ≤ ga from hgg ▸ Later.size hS)
     replace hS : (fun W : World => Later wc W) y3 := Later.trans hS lc
     have HV := Lib.hid (HV.out.later lc)
     have HB := Lib.hid (HB.out.later lc)
     try rw [hgg]
     unfold zS at hyy
     rw [hyy]
     refine hK _ _ hS fun wq hwq => ?_
     subst hwq
     clear hK lc hyy hgg
     (try simp only [Act.put, List.setIfInBounds_toArray, List.set_cons_zero, List.set_cons_succ])
     have hab : ga ≠ gb := ne_typ HA.out HB.out (by decide)
     refine wpAnyK_all (rs := [19]) (by kernel_rfl) (by simp) (fun i hi => ?_)
     simp only [List.mem_cons, List.not_mem_nil, or_false] at hi
     subst hi
     refine stepK (o := { dst := none, op := _, type := _, pos := _, after := _, guard := _ }) rfl (fun K hK => ?_)
     rw [if_pos (by rfl)]
     refine wp_store_mid 24 _ _ rfl ga 0 #[.slice VA vn vcp, .int .i64 vlast] rfl rfl (fun j hj => by rw [Nat.zero_add]; have hj2 : j < 2 := hj; exact ⟨by rw [cell_of_row y3 ga j _ _ _ HA.out, Array.getElem?_eq_getElem (by exact hj2)]; rfl, HA.out.frozen j⟩) (by kernel_rfl) (by simp [Value.oneCell']) ?_
     have hA2 := Blk.fill zS [.slice VA vn vcp, .int .i64 vlast] HA.out rfl
     have hB2 := HB.out.aside hab.symm 0 [.slice VA vn vcp, .int .i64 vlast]
     have hV2 := HV.out.fill HA.out (by decide) (by decide) 0 [.slice VA vn vcp, .int .i64 vlast]
     have hS : (fun W : World => Later wc W) (y3.setCells ga 0 [.slice VA vn vcp, .int .i64 vlast]) := Later.fill hS HGA.out 0 _
     refine hK _ _ hS fun wq hwq => ?_
     obtain ⟨z1, hz1⟩ : ∃ x, y3.setCells ga 0 [.slice VA vn vcp, .int .i64 vlast] = x := ⟨_, rfl⟩
     rw [hz1] at hA2 hB2 hV2 hS
     have hz2 : z1 = wq := hz1.symm.trans hwq
     subst hz2
     clear hK hwq hz1
     (try simp only [Act.put])
     refine wpAnyK_all (rs := [20]) (by kernel_rfl) (by simp) (fun i hi => ?_)
     simp only [List.mem_cons, List.not_mem_nil, or_false] at hi
     subst hi
     refine stepK (o := { dst := none, op := _, type := _, pos := _, after := _, guard := _ }) rfl (fun K hK => ?_)
     rw [if_pos (by rfl)]
     refine wp_store_mid 27 _ _ rfl gb 0 #[.int .i64 vsb, .int .i64 vpb, .int .i64 vparts, .slice VE ven vec] rfl rfl (fun j hj => by rw [Nat.zero_add]; have hj2 : j < 4 := hj; exact ⟨by rw [cell_of_row z1 gb j _ _ _ hB2, Array.getElem?_eq_getElem (by exact hj2)]; rfl, hB2.frozen j⟩) (by kernel_rfl) (by simp [Value.oneCell']) ?_
     have hB3 := Blk.fill zL [.int .i64 vsb, .int .i64 vpb, .int .i64 vparts, .slice VE ven vec] hB2 rfl
     have hA3 := hA2.aside hab 0 [.int .i64 vsb, .int .i64 vpb, .int .i64 vparts, .slice VE ven vec]
     have hV3 := hV2.fill hB2 (by decide) (by decide) 0 [.int .i64 vsb, .int .i64 vpb, .int .i64 vparts, .slice VE ven vec]
     have hS : (fun W : World => Later wc W) (z1.setCells gb 0 [.int .i64 vsb, .int .i64 vpb, .int .i64 vparts, .slice VE ven vec]) := Later.fill hS HGB.out 0 _
     refine hK _ _ hS fun wq hwq => ?_
     obtain ⟨z2, hz1⟩ : ∃ x, z1.setCells gb 0 [.int .i64 vsb, .int .i64 vpb, .int .i64 vparts, .slice VE ven vec] = x := ⟨_, rfl⟩
     rw [hz1] at hA3 hB3 hV3 hS
     have hz2 : z2 = wq := hz1.symm.trans hwq
     subst hz2
     clear hK hwq hz1 hA2 hB2 hV2
     (try simp only [Act.put])
     refine wpAnyK_take (fun _ => rfl) (fun _ _ _ h k => h.trans k) (fun _ _ h k => k ▸ h) (i := 21) (oi := { dst := some 28, op := _, type := _, pos := _, after := _, guard := _ }) (v := ?_) rfl (by kernel_rfl) (by kernel_rfl) (by kernel_rfl) (fun _ _ _ h => h) (Or.inl (Or.inl ⟨by rfl, ?_⟩)) hS ?_
     rotate_left
     focus ((intro w hSw; (try dsimp only at hSw); skip; go_simp); (try with_reducible rfl))
     intro wq hwq
     subst hwq
     (try simp only [Act.put, List.setIfInBounds_toArray, List.set_cons_zero, List.set_cons_succ])
     refine wpAnyK_done (by kernel_rfl) ?_ _
     go_wp2_with fail
     go_meet
     exact ⟨ga, gb, VA, vn, vcp, vlast, vsb, vpb, vparts, VE, ven, vec, vev, rfl, rfl, rfl, hV3, hA3, hB3, hab, HGA.out, HGB.out, hS⟩
    ·refine stepK (o := { dst := some 26, op := _, type := _, pos := _, after := _, guard := _ }) rfl (fun K hK => ?_)
     go_simp
     obtain ⟨ga, hgg⟩ : ∃ x, y1.heap.size = x := ⟨_, rfl⟩
     obtain ⟨y2, hyy⟩ : ∃ x, y1.alloc (.cells zS.toArray 24) = x := ⟨_, rfl⟩
     have lc : Later y1 y2 := hyy ▸ Later.new _ _
     have HA := Lib.hid (show Blk y2 ga zS.toArray 24 from hyy ▸ Blk.new _ _ _ _ hgg.symm)
     have HGA := Lib.hid (show wc.heap.size ≤ ga from hgg ▸ Later.size hS)
     replace hS : (fun W : World => Later wc W) y2 := Later.trans hS lc
     have HB := Lib.hid (HB.out.later lc)
     try rw [hgg]
     unfold zS at hyy
     rw [hyy]
     refine hK _ _ hS fun wq hwq => ?_
     subst hwq
     clear hK lc hyy hgg
     (try simp only [Act.put, List.setIfInBounds_toArray, List.set_cons_zero, List.set_cons_succ])
     refine wpAnyK_all (rs := [12]) (by kernel_rfl) (by simp) (fun i hi => ?_)
     simp only [List.mem_cons, List.not_mem_nil, or_false] at hi
     subst hi
     refine stepK (o := { dst := some 128, op := _, type := _, pos := _, after := _, guard := _ }) rfl (fun K hK => ?_)
     go_simp
     refine (HAP.out _ hS).mono ?_
     intro e y3 hap
     obtain ⟨VA, vn, vcp, vlast, vsb, vpb, vparts, VE, ven, vec, vev, rfl, hv, lc⟩ := hap.v (Later.size hS)
     have HV := Lib.hid hv
     replace hS : (fun W : World => Later wc W) y3 := Later.trans hS lc
     have HA := Lib.hid (HA.out.later lc)
     have HB := Lib.hid (HB.out.later lc)
     refine hK _ _ hS fun wq hwq => ?_
     subst hwq
     clear hK hap hv lc
     (try simp only [Act.put, List.setIfInBounds_toArray, List.set_cons_zero, List.set_cons_succ])
     refine wpAnyK_take (fun _ => rfl) (fun _ _ _ h k => h.trans k) (fun _ _ h k => k ▸ h) (i := 13) (oi := { dst := some 115, op := _, type := _, pos := _, after := _, guard := _ }) (v := ?_) rfl (by kernel_rfl) (by kernel_rfl) (by kernel_rfl) (fun _ _ _ h => h) (Or.inl (Or.inl ⟨by rfl, ?_⟩)) hS ?_
     rotate_left
     focus ((intro w hSw; (try dsimp only at hSw); skip; go_simp); (try with_reducible rfl))
     intro wq hwq
     subst hwq
     (try simp only [Act.put, List.setIfInBounds_toArray, List.set_cons_zero, List.set_cons_succ])
     refine wpAnyK_take (fun _ => rfl) (fun _ _ _ h k => h.trans k) (fun _ _ h k => k ▸ h) (i := 14) (oi := { dst := some 129, op := _, type := _, pos := _, after := _, guard := _ }) (v := ?_) rfl (by kernel_rfl) (by kernel_rfl) (by kernel_rfl) (fun _ _ _ h => h) (Or.inl (Or.inl ⟨by rfl, ?_⟩)) hS ?_
     rotate_left
     focus ((intro w hSw; (try dsimp only at hSw); skip; go_simp); (try with_reducible rfl))
     intro wq hwq
     subst hwq
     (try simp only [Act.put, List.setIfInBounds_toArray, List.set_cons_zero, List.set_cons_succ])
     refine wpAnyK_take (fun _ => rfl) (fun _ _ _ h k => h.trans k) (fun _ _ h k => k ▸ h) (i := 15) (oi := { dst := some 130, op := _, type := _, pos := _, after := _, guard := _ }) (v := ?_) rfl (by kernel_rfl) (by kernel_rfl) (by kernel_rfl) (fun _ _ _ h => h) (Or.inl (Or.inl ⟨by rfl, ?_⟩)) hS ?_
     rotate_left
     focus ((intro w hSw; (try dsimp only at hSw); skip; go_simp); (try with_reducible rfl))
     intro wq hwq
     subst hwq
     (try simp only [Act.put, List.setIfInBounds_toArray, List.set_cons_zero, List.set_cons_succ])
     refine wpAnyK_take (fun _ => rfl) (fun _ _ _ h k => h.trans k) (fun _ _ h k => k ▸ h) (i := 16) (oi := { dst := some 131, op := _, type := _, pos := _, after := _, guard := _ }) (v := ?_) rfl (by kernel_rfl) (by kernel_rfl) (by kernel_rfl) (fun _ _ _ h => h) (Or.inl (Or.inl ⟨by rfl, ?_⟩)) hS ?_
     rotate_left
     focus ((intro w hSw; (try dsimp only at hSw); skip; go_simp); (try with_reducible rfl))
     intro wq hwq
     subst hwq
     (try simp only [Act.put, List.setIfInBounds_toArray, List.set_cons_zero, List.set_cons_succ])
     have hab : ga ≠ gb := ne_typ HA.out HB.out (by decide)
     refine wpAnyK_all (rs := [19]) (by kernel_rfl) (by simp) (fun i hi => ?_)
     simp only [List.mem_cons, List.not_mem_nil, or_false] at hi
     subst hi
     refine stepK (o := { dst := none, op := _, type := _, pos := _, after := _, guard := _ }) rfl (fun K hK => ?_)
     rw [if_pos (by rfl)]
     refine wp_store_mid 24 _ _ rfl ga 0 #[.slice VA vn vcp, .int .i64 vlast] rfl rfl (fun j hj => by rw [Nat.zero_add]; have hj2 : j < 2 := hj; exact ⟨by rw [cell_of_row y3 ga j _ _ _ HA.out, Array.getElem?_eq_getElem (by exact hj2)]; rfl, HA.out.frozen j⟩) (by kernel_rfl) (by simp [Value.oneCell']) ?_
     have hA2 := Blk.fill zS [.slice VA vn vcp, .int .i64 vlast] HA.out rfl
     have hB2 := HB.out.aside hab.symm 0 [.slice VA vn vcp, .int .i64 vlast]
     have hV2 := HV.out.fill HA.out (by decide) (by decide) 0 [.slice VA vn vcp, .int .i64 vlast]
     have hS : (fun W : World => Later wc W) (y3.setCells ga 0 [.slice VA vn vcp, .int .i64 vlast]) := Later.fill hS HGA.out 0 _
     refine hK _ _ hS fun wq hwq => ?_
     obtain ⟨z1, hz1⟩ : ∃ x, y3.setCells ga 0 [.slice VA vn vcp, .int .i64 vlast] = x := ⟨_, rfl⟩
     rw [hz1] at hA2 hB2 hV2 hS
     have hz2 : z1 = wq := hz1.symm.trans hwq
     subst hz2
     clear hK hwq hz1
     (try simp only [Act.put])
     refine wpAnyK_all (rs := [20]) (by kernel_rfl) (by simp) (fun i hi => ?_)
     simp only [List.mem_cons, List.not_mem_nil, or_false] at hi
     subst hi
     refine stepK (o := { dst := none, op := _, type := _, pos := _, after := _, guard := _ }) rfl (fun K hK => ?_)
     rw [if_pos (by rfl)]
     refine wp_store_mid 27 _ _ rfl gb 0 #[.int .i64 vsb, .int .i64 vpb, .int .i64 vparts, .slice VE ven vec] rfl rfl (fun j hj => by rw [Nat.zero_add]; have hj2 : j < 4 := hj; exact ⟨by rw [cell_of_row z1 gb j _ _ _ hB2, Array.getElem?_eq_getElem (by exact hj2)]; rfl, hB2.frozen j⟩) (by kernel_rfl) (by simp [Value.oneCell']) ?_
     have hB3 := Blk.fill zL [.int .i64 vsb, .int .i64 vpb, .int .i64 vparts, .slice VE ven vec] hB2 rfl
     have hA3 := hA2.aside hab 0 [.int .i64 vsb, .int .i64 vpb, .int .i64 vparts, .slice VE ven vec]
     have hV3 := hV2.fill hB2 (by decide) (by decide) 0 [.int .i64 vsb, .int .i64 vpb, .int .i64 vparts, .slice VE ven vec]
     have hS : (fun W : World => Later wc W) (z1.setCells gb 0 [.int .i64 vsb, .int .i64 vpb, .int .i64 vparts, .slice VE ven vec]) := Later.fill hS HGB.out 0 _
     refine hK _ _ hS fun wq hwq => ?_
     obtain ⟨z2, hz1⟩ : ∃ x, z1.setCells gb 0 [.int .i64 vsb, .int .i64 vpb, .int .i64 vparts, .slice VE ven vec] = x := ⟨_, rfl⟩
     rw [hz1] at hA3 hB3 hV3 hS
     have hz2 : z2 = wq := hz1.symm.trans hwq
     subst hz2
     clear hK hwq hz1 hA2 hB2 hV2
     (try simp only [Act.put])
     refine wpAnyK_take (fun _ => rfl) (fun _ _ _ h k => h.trans k) (fun _ _ h k => k ▸ h) (i := 21) (oi := { dst := some 28, op := _, type := _, pos := _, after := _, guard := _ }) (v := ?_) rfl (by kernel_rfl) (by kernel_rfl) (by kernel_rfl) (fun _ _ _ h => h) (Or.inl (Or.inl ⟨by rfl, ?_⟩)) hS ?_
     rotate_left
     focus ((intro w hSw; (try dsimp only at hSw); skip; go_simp); (try with_reducible rfl))
     intro wq hwq
     subst hwq
     (try simp only [Act.put, List.setIfInBounds_toArray, List.set_cons_zero, List.set_cons_succ])
     refine wpAnyK_done (by kernel_rfl) ?_ _
     go_wp2_with fail
     go_meet
     exact ⟨ga, gb, VA, vn, vcp, vlast, vsb, vpb, vparts, VE, ven, vec, vev, rfl, rfl, rfl, hV3, hA3, hB3, hab, HGA.out, HGB.out, hS⟩
  case rest =>
  obtain ⟨g6, g7, VB, nb, cpb, lsb, sbb, pbb, ptb, EB, enb, ecb, eb, rfl, rfl, rfl, hvb, hA5, hB5, _, _, _, lx⟩ := hcut
  obtain ⟨h1, h2, h3, h4, h5, h6, h7, h8, h9⟩ := hvb.out
  rw [HO.out] at h1 h2 h3 h4 h5 h6 h8 h9
  subst h1 h2 h3 h4 h5 h6
  obtain rfl : ea = eb := HEA.out.trans h7.symm
  have HLY := Lib.hid (HLX.out.trans lx)
  have HRY := Lib.hid (HRX.out.later lx)
  have HA6 := Lib.hid (HA4.out.later lx)
  have HB6 := Lib.hid (HB4.out.later lx)
  have HA7 := Lib.hid hA5
  have HB7 := Lib.hid hB5
  have HM1 := Lib.hid (fun (W : World) (l : Later wc W) => (sameSchema_any VA VB o.1.length o.1.length cpa cpb o.2.1 o.2.1 o.1 o.1 W rfl rfl (HOA.out.later (lx.trans l)) (h8.later l) (by have := HOL.out; omega)).mono fun e w' h => TellsP.yes ⟨rfl, rfl⟩ h)
  have HM2 := Lib.hid (fun (W : World) (l : Later wc W) => (sameLayout_any EA EB o.2.2.enc.length o.2.2.enc.length eca ecb o.2.2 o.2.2 W rfl rfl (HOE.out.later (lx.trans l)) (h9.later l) (by have := HOL.out; omega)).mono fun e w' h => TellsP.yes rfl h)
  have HM3 := Lib.hid (fun (W : World) (l : Later wc W) => (schMay_any V1 s1.1.length vc1 s1.2.1 s1.1 W rfl (by have := HRY.out.ln; omega) (HRY.out.hv.later l) HRY.out.nm).mono fun e w' h => TellsP.tp h)
  have HM4 := Lib.hid (fun (W : World) (l : Later wc W) => (refMay_any V1 s1.1.length vc1 s1.2.1 s1.1 W rfl (by have := HRY.out.ln; omega) (HRY.out.hv.later l) HRY.out.nm).mono fun e w' h => TellsP.tp h)
  have HM5 := Lib.hid (fun (W : World) (l : Later wc W) => (mayLayout_any V1 E1 s1.1.length vc1 s1.2.2.enc.length ec1 s1.2.1 s1.1 s1.2.2 W rfl rfl (by have := HRY.out.ln; omega) (by have := HRY.out.ln; omega) (HRY.out.hv.later l) (HRY.out.he.later l)).mono fun e w' h => TellsP.tp h)
  have HM6 := Lib.hid (fun (W : World) (l : Later wc W) => (refMayLayout_any V1 E1 s1.1.length vc1 s1.2.2.enc.length ec1 s1.2.1 s1.1 s1.2.2 W rfl rfl (by have := HRY.out.ln; omega) (by have := HRY.out.ln; omega) (HRY.out.hv.later l) (HRY.out.he.later l)).mono fun e w' h => TellsP.tp h)
  generalize tp (MayS s1.1 s1.2.1) = b1 at HM3 HM4
  generalize tp (MayLy s1.1 s1.2.2) = b2 at HM5 HM6
  clear hvb hA5 hB5 lx h7 h8 h9 HAP HRX HLX HA4 HB4 HOA HOE HOL HO HEA
  go_upto_region 14 with fail
  go_cut [180] from 132 to 180 (fun cv wx => cv = .bool false ∧ Later wc wx)
  case first => as_aux_lemma =>
   refine wp_region_K (S := fun W : World => Later wc W) (R := Later) (fun _ => Later.refl _) (by kernel_rfl) ?_
   have hS : (fun W : World => Later wc W) wc.drew := (Later.refl wc).drew
   refine wpAnyK_take Later.refl (fun _ _ _ h k => h.trans k) (fun _ _ h k => h.trans k) (i := 0) (oi := { dst := some 132, op := _, type := _, pos := _, after := _, guard := _ }) (v := ?_) rfl (by kernel_rfl) (by kernel_rfl) (by kernel_rfl) (fun _ _ _ h => h) (Or.inl (Or.inl ⟨by rfl, ?_⟩)) hS ?_
   rotate_left
   focus ((intro w hSw; (try dsimp only at hSw); skip; go_simp); (try with_reducible rfl))
   intro wq hwq
   replace hS := hS.trans hwq
   (try simp only [Act.put, List.setIfInBounds_toArray, List.set_cons_zero, List.set_cons_succ])
   clear hwq
   refine wpAnyK_take Later.refl (fun _ _ _ h k => h.trans k) (fun _ _ h k => h.trans k) (i := 1) (oi := { dst := some 133, op := _, type := _, pos := _, after := _, guard := _ }) (v := ?_) rfl (by kernel_rfl) (by kernel_rfl) (by kernel_rfl) (fun _ _ _ h => h) (Or.inl (Or.inl ⟨by rfl, ?_⟩)) hS ?_
   rotate_left
   focus ((intro w hSw; (try dsimp only at hSw); skip; go_simp); (try with_reducible rfl))
   intro wq hwq
   replace hS := hS.trans hwq
   (try simp only [Act.put, List.setIfInBounds_toArray, List.set_cons_zero, List.set_cons_succ])
   clear hwq
   refine wpAnyK_take Later.refl (fun _ _ _ h k => h.trans k) (fun _ _ h k => h.trans k) (i := 2) (oi := { dst := some 134, op := _, type := _, pos := _, after := _, guard := _ }) (v := ?_) rfl (by kernel_rfl) (by kernel_rfl) (by kernel_rfl) (fun _ _ _ h => h) (Or.inl (Or.inl ⟨by rfl, ?_⟩)) hS ?_
   rotate_left
   focus ((intro w hSw; (try dsimp only at hSw); skip; go_simp); (try with_reducible rfl))
   intro wq hwq
   replace hS := hS.trans hwq
   (try simp only [Act.put, List.setIfInBounds_toArray, List.set_cons_zero, List.set_cons_succ])
   clear hwq
   refine wpAnyK_take Later.refl (fun _ _ _ h k => h.trans k) (fun _ _ h k => h.trans k) (i := 3) (oi := { dst := some 135, op := _, type := _, pos := _, after := _, guard := _ }) (v := ?_) rfl (by kernel_rfl) (by kernel_rfl) (by kernel_rfl) (fun _ _ _ h => h) (Or.inl (Or.inl ⟨by rfl, ?_⟩)) hS ?_
   rotate_left
   focus ((intro w hSw; (try dsimp only at hSw); skip; go_simp); (try with_reducible rfl))
   intro wq hwq
   replace hS := hS.trans hwq
   (try simp only [Act.put, List.setIfInBounds_toArray, List.set_cons_zero, List.set_cons_succ])
   clear hwq
   refine wpAnyK_take Later.refl (fun _ _ _ h k => h.trans k) (fun _ _ h k => h.trans k) (i := 4) (oi := { dst := some 136, op := _, type := _, pos := _, after := _, guard := _ }) (v := ?_) rfl (by kernel_rfl) (by kernel_rfl) (by kernel_rfl) (fun _ _ _ h => h) (Or.inl (Or.inl ⟨by rfl, ?_⟩)) hS ?_
   rotate_left
   focus ((intro w hSw; (try dsimp only at hSw); have q0 := (Blk.later HA6.out hSw).cell 0 _ rfl; have q1 := (Blk.later HA6.out hSw).cell 1 _ rfl; go_simp); (try with_reducible rfl))
   intro wq hwq
   replace hS := hS.trans hwq
   (try simp only [Act.put, List.setIfInBounds_toArray, List.set_cons_zero, List.set_cons_succ])
   clear hwq
   refine wpAnyK_take Later.refl (fun _ _ _ h k => h.trans k) (fun _ _ h k => h.trans k) (i := 5) (oi := { dst := some 137, op := _, type := _, pos := _, after := _, guard := _ }) (v := ?_) rfl (by kernel_rfl) (by kernel_rfl) (by kernel_rfl) (fun _ _ _ h => h) (Or.inl (Or.inl ⟨by rfl, ?_⟩)) hS ?_
   rotate_left
   focus ((intro w hSw; (try dsimp only at hSw); have q0 := (Blk.later HA7.out hSw).cell 0 _ rfl; have q1 := (Blk.later HA7.out hSw).cell 1 _ rfl; go_simp); (try with_reducible rfl))
   intro wq hwq
   replace hS := hS.trans hwq
   (try simp only [Act.put, List.setIfInBounds_toArray, List.set_cons_zero, List.set_cons_succ])
   clear hwq
   refine wpAnyK_take Later.refl (fun _ _ _ h k => h.trans k) (fun _ _ h k => h.trans k) (i := 6) (oi := { dst := some 138, op := _, type := _, pos := _, after := _, guard := _ }) (v := .bool true) rfl (by kernel_rfl) (by kernel_rfl) (by kernel_rfl) (fun _ _ _ h => h) (Or.inr ⟨by rfl, 16, #[.agg #[.slice VA o.1.length cpa, .int .i64 o.2.1], .agg #[.slice VB o.1.length cpb, .int .i64 o.2.1]], fun W hW => ⟨?_, HM1.out W hW⟩⟩) hS ?_
   ·first | rfl | (go_simp; done)
   intro wq hwq
   replace hS := hS.trans hwq
   (try simp only [Act.put, List.setIfInBounds_toArray, List.set_cons_zero, List.set_cons_succ])
   clear hwq
   refine wpAnyK_take Later.refl (fun _ _ _ h k => h.trans k) (fun _ _ h k => h.trans k) (i := 7) (oi := { dst := some 139, op := _, type := _, pos := _, after := _, guard := _ }) (v := ?_) rfl (by kernel_rfl) (by kernel_rfl) (by kernel_rfl) (fun _ _ _ h => h) (Or.inl (Or.inl ⟨by rfl, ?_⟩)) hS ?_
   rotate_left
   focus ((intro w hSw; (try dsimp only at hSw); skip; go_simp); (try with_reducible rfl))
   intro wq hwq
   replace hS := hS.trans hwq
   (try simp only [Act.put, List.setIfInBounds_toArray, List.set_cons_zero, List.set_cons_succ])
   clear hwq
   refine wpAnyK_take Later.refl (fun _ _ _ h k => h.trans k) (fun _ _ h k => h.trans k) (i := 8) (oi := { dst := some 140, op := _, type := _, pos := _, after := _, guard := _ }) (v := ?_) rfl (by kernel_rfl) (by kernel_rfl) (by kernel_rfl) (fun _ _ _ h => h) (Or.inl (Or.inl ⟨by rfl, ?_⟩)) hS ?_
   rotate_left
   focus ((intro w hSw; (try dsimp only at hSw); skip; go_simp); (try with_reducible rfl))
   intro wq hwq
   replace hS := hS.trans hwq
   (try simp only [Act.put, List.setIfInBounds_toArray, List.set_cons_zero, List.set_cons_succ])
   clear hwq
   refine wpAnyK_take Later.refl (fun _ _ _ h k => h.trans k) (fun _ _ h k => h.trans k) (i := 9) (oi := { dst := some 141, op := _, type := _, pos := _, after := _, guard := _ }) (v := ?_) rfl (by kernel_rfl) (by kernel_rfl) (by kernel_rfl) (fun _ _ _ h => h) (Or.inl (Or.inl ⟨by rfl, ?_⟩)) hS ?_
   rotate_left
   focus ((intro w hSw; (try dsimp only at hSw); skip; go_simp); (try with_reducible rfl))
   intro wq hwq
   replace hS := hS.trans hwq
   (try simp only [Act.put, List.setIfInBounds_toArray, List.set_cons_zero, List.set_cons_succ])
   clear hwq
   refine wpAnyK_take Later.refl (fun _ _ _ h k => h.trans k) (fun _ _ h k => h.trans k) (i := 10) (oi := { dst := some 142, op := _, type := _, pos := _, after := _, guard := _ }) (v := ?_) rfl (by kernel_rfl) (by kernel_rfl) (by kernel_rfl) (fun _ _ _ h => h) (Or.inl (Or.inl ⟨by rfl, ?_⟩)) hS ?_
   rotate_left
   focus ((intro w hSw; (try dsimp only at hSw); have q0 := (Blk.later HB6.out hSw).cell 0 _ rfl; have q1 := (Blk.later HB6.out hSw).cell 1 _ rfl; have q2 := (Blk.later HB6.out hSw).cell 2 _ rfl; have q3 := (Blk.later HB6.out hSw).cell 3 _ rfl; go_simp); (try with_reducible rfl))
   intro wq hwq
   replace hS := hS.trans hwq
   (try simp only [Act.put, List.setIfInBounds_toArray, List.set_cons_zero, List.set_cons_succ])
   clear hwq
   refine wpAnyK_take Later.refl (fun _ _ _ h k => h.trans k) (fun _ _ h k => h.trans k) (i := 11) (oi := { dst := some 143, op := _, type := _, pos := _, after := _, guard := _ }) (v := ?_) rfl (by kernel_rfl) (by kernel_rfl) (by kernel_rfl) (fun _ _ _ h => h) (Or.inl (Or.inl ⟨by rfl, ?_⟩)) hS ?_
   rotate_left
   focus ((intro w hSw; (try dsimp only at hSw); have q0 := (Blk.later HB7.out hSw).cell 0 _ rfl; have q1 := (Blk.later HB7.out hSw).cell 1 _ rfl; have q2 := (Blk.later HB7.out hSw).cell 2 _ rfl; have q3 := (Blk.later HB7.out hSw).cell 3 _ rfl; go_simp); (try with_reducible rfl))
   intro wq hwq
   replace hS := hS.trans hwq
   (try simp only [Act.put, List.setIfInBounds_toArray, List.set_cons_zero, List.set_cons_succ])
   clear hwq
   refine wpAnyK_take Later.refl (fun _ _ _ h k => h.trans k) (fun _ _ h k => h.trans k) (i := 12) (oi := { dst := some 144, op := _, type := _, pos := _, after := _, guard := _ }) (v := .bool true) rfl (by kernel_rfl) (by kernel_rfl) (by kernel_rfl) (fun _ _ _ h => h) (Or.inr ⟨by rfl, 17, #[.agg #[.int .i64 o.2.2.sb, .int .i64 o.2.2.pb, .int .i64 o.2.2.parts, .slice EA o.2.2.enc.length eca], .agg #[.int .i64 o.2.2.sb, .int .i64 o.2.2.pb, .int .i64 o.2.2.parts, .slice EB o.2.2.enc.length ecb]], fun W hW => ⟨?_, HM2.out W hW⟩⟩) hS ?_
   ·first | rfl | (go_simp; done)
   intro wq hwq
   replace hS := hS.trans hwq
   (try simp only [Act.put, List.setIfInBounds_toArray, List.set_cons_zero, List.set_cons_succ])
   clear hwq
   refine wpAnyK_take Later.refl (fun _ _ _ h k => h.trans k) (fun _ _ h k => h.trans k) (i := 13) (oi := { dst := some 145, op := _, type := _, pos := _, after := _, guard := _ }) (v := ?_) rfl (by kernel_rfl) (by kernel_rfl) (by kernel_rfl) (fun _ _ _ h => h) (Or.inl (Or.inl ⟨by rfl, ?_⟩)) hS ?_
   rotate_left
   focus ((intro w hSw; (try dsimp only at hSw); skip; go_simp); (try with_reducible rfl))
   intro wq hwq
   replace hS := hS.trans hwq
   (try simp only [Act.put, List.setIfInBounds_toArray, List.set_cons_zero, List.set_cons_succ])
   clear hwq
   refine wpAnyK_take Later.refl (fun _ _ _ h k => h.trans k) (fun _ _ h k => h.trans k) (i := 14) (oi := { dst := some 146, op := _, type := _, pos := _, after := _, guard := _ }) (v := ?_) rfl (by kernel_rfl) (by kernel_rfl) (by kernel_rfl) (fun _ _ _ h => h) (Or.inl (Or.inl ⟨by rfl, ?_⟩)) hS ?_
   rotate_left
   focus ((intro w hSw; (try dsimp only at hSw); skip; go_simp); (try with_reducible rfl))
   intro wq hwq
   replace hS := hS.trans hwq
   (try simp only [Act.put, List.setIfInBounds_toArray, List.set_cons_zero, List.set_cons_succ])
   clear hwq
   refine wpAnyK_take Later.refl (fun _ _ _ h k => h.trans k) (fun _ _ h k => h.trans k) (i := 15) (oi := { dst := some 147, op := _, type := _, pos := _, after := _, guard := _ }) (v := ?_) rfl (by kernel_rfl) (by kernel_rfl) (by kernel_rfl) (fun _ _ _ h => h) (Or.inl (Or.inl ⟨by rfl, ?_⟩)) hS ?_
   rotate_left
   focus ((intro w hSw; (try dsimp only at hSw); skip; go_simp); (try with_reducible rfl))
   intro wq hwq
   replace hS := hS.trans hwq
   (try simp only [Act.put, List.setIfInBounds_toArray, List.set_cons_zero, List.set_cons_succ])
   clear hwq
   refine wpAnyK_take Later.refl (fun _ _ _ h k => h.trans k) (fun _ _ h k => h.trans k) (i := 16) (oi := { dst := some 148, op := _, type := _, pos := _, after := _, guard := _ }) (v := ?_) rfl (by kernel_rfl) (by kernel_rfl) (by kernel_rfl) (fun _ _ _ h => h) (Or.inl (Or.inl ⟨by rfl, ?_⟩)) hS ?_
   rotate_left
   focus ((intro w hSw; (try dsimp only at hSw); have hx := HRY.out.later hSw; have q0 := hx.a0; have q1 := hx.a1; have p0 := hx.b0; have p1 := hx.b1; have p2 := hx.b2; have p3 := hx.b3; have c0 := hx.c0; have c1_ := hx.c1; have c2 := hx.c2; have c3 := hx.c3; have c4 := hx.c4; have c5 := hx.c5; have c6 := hx.c6; have c7 := hx.c7; have c8 := hx.c8; go_simp); (try with_reducible rfl))
   intro wq hwq
   replace hS := hS.trans hwq
   (try simp only [Act.put, List.setIfInBounds_toArray, List.set_cons_zero, List.set_cons_succ])
   clear hwq
   refine wpAnyK_take Later.refl (fun _ _ _ h k => h.trans k) (fun _ _ h k => h.trans k) (i := 17) (oi := { dst := some 149, op := _, type := _, pos := _, after := _, guard := _ }) (v := ?_) rfl (by kernel_rfl) (by kernel_rfl) (by kernel_rfl) (fun _ _ _ h => h) (Or.inl (Or.inl ⟨by rfl, ?_⟩)) hS ?_
   rotate_left
   focus ((intro w hSw; (try dsimp only at hSw); have hx := HRY.out.later hSw; have q0 := hx.a0; have q1 := hx.a1; have p0 := hx.b0; have p1 := hx.b1; have p2 := hx.b2; have p3 := hx.b3; have c0 := hx.c0; have c1_ := hx.c1; have c2 := hx.c2; have c3 := hx.c3; have c4 := hx.c4; have c5 := hx.c5; have c6 := hx.c6; have c7 := hx.c7; have c8 := hx.c8; go_simp); (try with_reducible rfl))
   intro wq hwq
   replace hS := hS.trans hwq
   (try simp only [Act.put, List.setIfInBounds_toArray, List.set_cons_zero, List.set_cons_succ])
   clear hwq
   refine wpAnyK_take Later.refl (fun _ _ _ h k => h.trans k) (fun _ _ h k => h.trans k) (i := 18) (oi := { dst := some 150, op := _, type := _, pos := _, after := _, guard := _ }) (v := ?_) rfl (by kernel_rfl) (by kernel_rfl) (by kernel_rfl) (fun _ _ _ h => h) (Or.inl (Or.inl ⟨by rfl, ?_⟩)) hS ?_
   rotate_left
   focus ((intro w hSw; (try dsimp only at hSw); have hx := HRY.out.later hSw; have q0 := hx.a0; have q1 := hx.a1; have p0 := hx.b0; have p1 := hx.b1; have p2 := hx.b2; have p3 := hx.b3; have c0 := hx.c0; have c1_ := hx.c1; have c2 := hx.c2; have c3 := hx.c3; have c4 := hx.c4; have c5 := hx.c5; have c6 := hx.c6; have c7 := hx.c7; have c8 := hx.c8; go_simp); (try with_reducible rfl))
   intro wq hwq
   replace hS := hS.trans hwq
   (try simp only [Act.put, List.setIfInBounds_toArray, List.set_cons_zero, List.set_cons_succ])
   clear hwq
   refine wpAnyK_take Later.refl (fun _ _ _ h k => h.trans k) (fun _ _ h k => h.trans k) (i := 19) (oi := { dst := some 151, op := _, type := _, pos := _, after := _, guard := _ }) (v := ?_) rfl (by kernel_rfl) (by kernel_rfl) (by kernel_rfl) (fun _ _ _ h => h) (Or.inl (Or.inl ⟨by rfl, ?_⟩)) hS ?_
   rotate_left
   focus ((intro w hSw; (try dsimp only at hSw); have hx := HRY.out.later hSw; have q0 := hx.a0; have q1 := hx.a1; have p0 := hx.b0; have p1 := hx.b1; have p2 := hx.b2; have p3 := hx.b3; have c0 := hx.c0; have c1_ := hx.c1; have c2 := hx.c2; have c3 := hx.c3; have c4 := hx.c4; have c5 := hx.c5; have c6 := hx.c6; have c7 := hx.c7; have c8 := hx.c8; go_simp); (try with_reducible rfl))
   intro wq hwq
   replace hS := hS.trans hwq
   (try simp only [Act.put, List.setIfInBounds_toArray, List.set_cons_zero, List.set_cons_succ])
   clear hwq
   refine wpAnyK_take Later.refl (fun _ _ _ h k => h.trans k) (fun _ _ h k => h.trans k) (i := 20) (oi := { dst := some 152, op := _, type := _, pos := _, after := _, guard := _ }) (v := .bool b1) rfl (by kernel_rfl) (by kernel_rfl) (by kernel_rfl) (fun _ _ _ h => h) (Or.inr ⟨by rfl, 18, #[.agg #[.slice V1 s1.1.length vc1, .int .i64 s1.2.1]], fun W hW => ⟨?_, HM3.out W hW⟩⟩) hS ?_
   ·first | rfl | (go_simp; done)
   intro wq hwq
   replace hS := hS.trans hwq
   (try simp only [Act.put, List.setIfInBounds_toArray, List.set_cons_zero, List.set_cons_succ])
   clear hwq
   refine wpAnyK_take Later.refl (fun _ _ _ h k => h.trans k) (fun _ _ h k => h.trans k) (i := 21) (oi := { dst := some 153, op := _, type := _, pos := _, after := _, guard := _ }) (v := ?_) rfl (by kernel_rfl) (by kernel_rfl) (by kernel_rfl) (fun _ _ _ h => h) (Or.inl (Or.inl ⟨by rfl, ?_⟩)) hS ?_
   rotate_left
   focus ((intro w hSw; (try dsimp only at hSw); have hx := HRY.out.later hSw; have q0 := hx.a0; have q1 := hx.a1; have p0 := hx.b0; have p1 := hx.b1; have p2 := hx.b2; have p3 := hx.b3; have c0 := hx.c0; have c1_ := hx.c1; have c2 := hx.c2; have c3 := hx.c3; have c4 := hx.c4; have c5 := hx.c5; have c6 := hx.c6; have c7 := hx.c7; have c8 := hx.c8; go_simp); (try with_reducible rfl))
   intro wq hwq
   replace hS := hS.trans hwq
   (try simp only [Act.put, List.setIfInBounds_toArray, List.set_cons_zero, List.set_cons_succ])
   clear hwq
   refine wpAnyK_take Later.refl (fun _ _ _ h k => h.trans k) (fun _ _ h k => h.trans k) (i := 22) (oi := { dst := some 154, op := _, type := _, pos := _, after := _, guard := _ }) (v := ?_) rfl (by kernel_rfl) (by kernel_rfl) (by kernel_rfl) (fun _ _ _ h => h) (Or.inl (Or.inl ⟨by rfl, ?_⟩)) hS ?_
   rotate_left
   focus ((intro w hSw; (try dsimp only at hSw); have hx := HRY.out.later hSw; have q0 := hx.a0; have q1 := hx.a1; have p0 := hx.b0; have p1 := hx.b1; have p2 := hx.b2; have p3 := hx.b3; have c0 := hx.c0; have c1_ := hx.c1; have c2 := hx.c2; have c3 := hx.c3; have c4 := hx.c4; have c5 := hx.c5; have c6 := hx.c6; have c7 := hx.c7; have c8 := hx.c8; go_simp); (try with_reducible rfl))
   intro wq hwq
   replace hS := hS.trans hwq
   (try simp only [Act.put, List.setIfInBounds_toArray, List.set_cons_zero, List.set_cons_succ])
   clear hwq
   refine wpAnyK_take Later.refl (fun _ _ _ h k => h.trans k) (fun _ _ h k => h.trans k) (i := 23) (oi := { dst := some 155, op := _, type := _, pos := _, after := _, guard := _ }) (v := ?_) rfl (by kernel_rfl) (by kernel_rfl) (by kernel_rfl) (fun _ _ _ h => h) (Or.inl (Or.inl ⟨by rfl, ?_⟩)) hS ?_
   rotate_left
   focus ((intro w hSw; (try dsimp only at hSw); have hx := HRY.out.later hSw; have q0 := hx.a0; have q1 := hx.a1; have p0 := hx.b0; have p1 := hx.b1; have p2 := hx.b2; have p3 := hx.b3; have c0 := hx.c0; have c1_ := hx.c1; have c2 := hx.c2; have c3 := hx.c3; have c4 := hx.c4; have c5 := hx.c5; have c6 := hx.c6; have c7 := hx.c7; have c8 := hx.c8; go_simp); (try with_reducible rfl))
   intro wq hwq
   replace hS := hS.trans hwq
   (try simp only [Act.put, List.setIfInBounds_toArray, List.set_cons_zero, List.set_cons_succ])
   clear hwq
   refine wpAnyK_take Later.refl (fun _ _ _ h k => h.trans k) (fun _ _ h k => h.trans k) (i := 24) (oi := { dst := some 156, op := _, type := _, pos := _, after := _, guard := _ }) (v := ?_) rfl (by kernel_rfl) (by kernel_rfl) (by kernel_rfl) (fun _ _ _ h => h) (Or.inl (Or.inl ⟨by rfl, ?_⟩)) hS ?_
   rotate_left
   focus ((intro w hSw; (try dsimp only at hSw); have hx := HRY.out.later hSw; have q0 := hx.a0; have q1 := hx.a1; have p0 := hx.b0; have p1 := hx.b1; have p2 := hx.b2; have p3 := hx.b3; have c0 := hx.c0; have c1_ := hx.c1; have c2 := hx.c2; have c3 := hx.c3; have c4 := hx.c4; have c5 := hx.c5; have c6 := hx.c6; have c7 := hx.c7; have c8 := hx.c8; go_simp); (try with_reducible rfl))
   intro wq hwq
   replace hS := hS.trans hwq
   (try simp only [Act.put, List.setIfInBounds_toArray, List.set_cons_zero, List.set_cons_succ])
   clear hwq
   refine wpAnyK_take Later.refl (fun _ _ _ h k => h.trans k) (fun _ _ h k => h.trans k) (i := 25) (oi := { dst := some 157, op := _, type := _, pos := _, after := _, guard := _ }) (v := .bool b1) rfl (by kernel_rfl) (by kernel_rfl) (by kernel_rfl) (fun _ _ _ h => h) (Or.inr ⟨by rfl, 19, #[.agg #[.slice V1 s1.1.length vc1, .int .i64 s1.2.1]], fun W hW => ⟨?_, HM4.out W hW⟩⟩) hS ?_
   ·first | rfl | (go_simp; done)
   intro wq hwq
   replace hS := hS.trans hwq
   (try simp only [Act.put, List.setIfInBounds_toArray, List.set_cons_zero, List.set_cons_succ])
   clear hwq
   refine wpAnyK_take Later.refl (fun _ _ _ h k => h.trans k) (fun _ _ h k => h.trans k) (i := 26) (oi := { dst := some 158, op := _, type := _, pos := _, after := _, guard := _ }) (v := ?_) rfl (by kernel_rfl) (by kernel_rfl) (by kernel_rfl) (fun _ _ _ h => h) (Or.inl (Or.inl ⟨by rfl, ?_⟩)) hS ?_
   rotate_left
   focus ((intro w hSw; (try dsimp only at hSw); skip; go_simp); (try with_reducible rfl))
   intro wq hwq
   replace hS := hS.trans hwq
   (try simp only [Act.put, List.setIfInBounds_toArray, List.set_cons_zero, List.set_cons_succ])
   clear hwq
   refine wpAnyK_take Later.refl (fun _ _ _ h k => h.trans k) (fun _ _ h k => h.trans k) (i := 27) (oi := { dst := some 159, op := _, type := _, pos := _, after := _, guard := _ }) (v := ?_) rfl (by kernel_rfl) (by kernel_rfl) (by kernel_rfl) (fun _ _ _ h => h) (Or.inl (Or.inl ⟨by rfl, ?_⟩)) hS ?_
   rotate_left
   focus ((intro w hSw; (try dsimp only at hSw); skip; go_simp); (try with_reducible rfl))
   intro wq hwq
   replace hS := hS.trans hwq
   (try simp only [Act.put, List.setIfInBounds_toArray, List.set_cons_zero, List.set_cons_succ])
   clear hwq
   refine wpAnyK_take Later.refl (fun _ _ _ h k => h.trans k) (fun _ _ h k => h.trans k) (i := 28) (oi := { dst := some 160, op := _, type := _, pos := _, after := _, guard := _ }) (v := ?_) rfl (by kernel_rfl) (by kernel_rfl) (by kernel_rfl) (fun _ _ _ h => h) (Or.inl (Or.inl ⟨by rfl, ?_⟩)) hS ?_
   rotate_left
   focus ((intro w hSw; (try dsimp only at hSw); skip; go_simp); (try with_reducible rfl))
   intro wq hwq
   replace hS := hS.trans hwq
   (try simp only [Act.put, List.setIfInBounds_toArray, List.set_cons_zero, List.set_cons_succ])
   clear hwq
   refine wpAnyK_take Later.refl (fun _ _ _ h k => h.trans k) (fun _ _ h k => h.trans k) (i := 29) (oi := { dst := some 161, op := _, type := _, pos := _, after := _, guard := _ }) (v := ?_) rfl (by kernel_rfl) (by kernel_rfl) (by kernel_rfl) (fun _ _ _ h => h) (Or.inl (Or.inl ⟨by rfl, ?_⟩)) hS ?_
   rotate_left
   focus ((intro w hSw; (try dsimp only at hSw); have hx := HRY.out.later hSw; have q0 := hx.a0; have q1 := hx.a1; have p0 := hx.b0; have p1 := hx.b1; have p2 := hx.b2; have p3 := hx.b3; have c0 := hx.c0; have c1_ := hx.c1; have c2 := hx.c2; have c3 := hx.c3; have c4 := hx.c4; have c5 := hx.c5; have c6 := hx.c6; have c7 := hx.c7; have c8 := hx.c8; go_simp); (try with_reducible rfl))
   intro wq hwq
   replace hS := hS.trans hwq
   (try simp only [Act.put, List.setIfInBounds_toArray, List.set_cons_zero, List.set_cons_succ])
   clear hwq
   refine wpAnyK_take Later.refl (fun _ _ _ h k => h.trans k) (fun _ _ h k => h.trans k) (i := 30) (oi := { dst := some 162, op := _, type := _, pos := _, after := _, guard := _ }) (v := ?_) rfl (by kernel_rfl) (by kernel_rfl) (by kernel_rfl) (fun _ _ _ h => h) (Or.inl (Or.inl ⟨by rfl, ?_⟩)) hS ?_
   rotate_left
   focus ((intro w hSw; (try dsimp only at hSw); have hx := HRY.out.later hSw; have q0 := hx.a0; have q1 := hx.a1; have p0 := hx.b0; have p1 := hx.b1; have p2 := hx.b2; have p3 := hx.b3; have c0 := hx.c0; have c1_ := hx.c1; have c2 := hx.c2; have c3 := hx.c3; have c4 := hx.c4; have c5 := hx.c5; have c6 := hx.c6; have c7 := hx.c7; have c8 := hx.c8; go_simp); (try with_reducible rfl))
   intro wq hwq
   replace hS := hS.trans hwq
   (try simp only [Act.put, List.setIfInBounds_toArray, List.set_cons_zero, List.set_cons_succ])
   clear hwq
   refine wpAnyK_take Later.refl (fun _ _ _ h k => h.trans k) (fun _ _ h k => h.trans k) (i := 31) (oi := { dst := some 163, op := _, type := _, pos := _, after := _, guard := _ }) (v := ?_) rfl (by kernel_rfl) (by kernel_rfl) (by kernel_rfl) (fun _ _ _ h => h) (Or.inl (Or.inl ⟨by rfl, ?_⟩)) hS ?_
   rotate_left
   focus ((intro w hSw; (try dsimp only at hSw); have hx := HRY.out.later hSw; have q0 := hx.a0; have q1 := hx.a1; have p0 := hx.b0; have p1 := hx.b1; have p2 := hx.b2; have p3 := hx.b3; have c0 := hx.c0; have c1_ := hx.c1; have c2 := hx.c2; have c3 := hx.c3; have c4 := hx.c4; have c5 := hx.c5; have c6 := hx.c6; have c7 := hx.c7; have c8 := hx.c8; go_simp); (try with_reducible rfl))
   intro wq hwq
   replace hS := hS.trans hwq
   (try simp only [Act.put, List.setIfInBounds_toArray, List.set_cons_zero, List.set_cons_succ])
   clear hwq
   refine wpAnyK_take Later.refl (fun _ _ _ h k => h.trans k) (fun _ _ h k => h.trans k) (i := 32) (oi := { dst := some 164, op := _, type := _, pos := _, after := _, guard := _ }) (v := ?_) rfl (by kernel_rfl) (by kernel_rfl) (by kernel_rfl) (fun _ _ _ h => h) (Or.inl (Or.inl ⟨by rfl, ?_⟩)) hS ?_
   rotate_left
   focus ((intro w hSw; (try dsimp only at hSw); have hx := HRY.out.later hSw; have q0 := hx.a0; have q1 := hx.a1; have p0 := hx.b0; have p1 := hx.b1; have p2 := hx.b2; have p3 := hx.b3; have c0 := hx.c0; have c1_ := hx.c1; have c2 := hx.c2; have c3 := hx.c3; have c4 := hx.c4; have c5 := hx.c5; have c6 := hx.c6; have c7 := hx.c7; have c8 := hx.c8; go_simp); (try with_reducible rfl))
   intro wq hwq
   replace hS := hS.trans hwq
   (try simp only [Act.put, List.setIfInBounds_toArray, List.set_cons_zero, List.set_cons_succ])
   clear hwq
   refine wpAnyK_take Later.refl (fun _ _ _ h k => h.trans k) (fun _ _ h k => h.trans k) (i := 33) (oi := { dst := some 165, op := _, type := _, pos := _, after := _, guard := _ }) (v := ?_) rfl (by kernel_rfl) (by kernel_rfl) (by kernel_rfl) (fun _ _ _ h => h) (Or.inl (Or.inl ⟨by rfl, ?_⟩)) hS ?_
   rotate_left
   focus ((intro w hSw; (try dsimp only at hSw); have hx := HRY.out.later hSw; have q0 := hx.a0; have q1 := hx.a1; have p0 := hx.b0; have p1 := hx.b1; have p2 := hx.b2; have p3 := hx.b3; have c0 := hx.c0; have c1_ := hx.c1; have c2 := hx.c2; have c3 := hx.c3; have c4 := hx.c4; have c5 := hx.c5; have c6 := hx.c6; have c7 := hx.c7; have c8 := hx.c8; go_simp); (try with_reducible rfl))
   intro wq hwq
   replace hS := hS.trans hwq
   (try simp only [Act.put, List.setIfInBounds_toArray, List.set_cons_zero, List.set_cons_succ])
   clear hwq
   refine wpAnyK_take Later.refl (fun _ _ _ h k => h.trans k) (fun _ _ h k => h.trans k) (i := 34) (oi := { dst := some 166, op := _, type := _, pos := _, after := _, guard := _ }) (v := ?_) rfl (by kernel_rfl) (by kernel_rfl) (by kernel_rfl) (fun _ _ _ h => h) (Or.inl (Or.inl ⟨by rfl, ?_⟩)) hS ?_
   rotate_left
   focus ((intro w hSw; (try dsimp only at hSw); have hx := HRY.out.later hSw; have q0 := hx.a0; have q1 := hx.a1; have p0 := hx.b0; have p1 := hx.b1; have p2 := hx.b2; have p3 := hx.b3; have c0 := hx.c0; have c1_ := hx.c1; have c2 := hx.c2; have c3 := hx.c3; have c4 := hx.c4; have c5 := hx.c5; have c6 := hx.c6; have c7 := hx.c7; have c8 := hx.c8; go_simp); (try with_reducible rfl))
   intro wq hwq
   replace hS := hS.trans hwq
   (try simp only [Act.put, List.setIfInBounds_toArray, List.set_cons_zero, List.set_cons_succ])
   clear hwq
   refine wpAnyK_take Later.refl (fun _ _ _ h k => h.trans k) (fun _ _ h k => h.trans k) (i := 35) (oi := { dst := some 167, op := _, type := _, pos := _, after := _, guard := _ }) (v := ?_) rfl (by kernel_rfl) (by kernel_rfl) (by kernel_rfl) (fun _ _ _ h => h) (Or.inl (Or.inl ⟨by rfl, ?_⟩)) hS ?_
   rotate_left
   focus ((intro w hSw; (try dsimp only at hSw); have hx := HRY.out.later hSw; have q0 := hx.a0; have q1 := hx.a1; have p0 := hx.b0; have p1 := hx.b1; have p2 := hx.b2; have p3 := hx.b3; have c0 := hx.c0; have c1_ := hx.c1; have c2 := hx.c2; have c3 := hx.c3; have c4 := hx.c4; have c5 := hx.c5; have c6 := hx.c6; have c7 := hx.c7; have c8 := hx.c8; go_simp); (try with_reducible rfl))
   intro wq hwq
   replace hS := hS.trans hwq
   (try simp only [Act.put, List.setIfInBounds_toArray, List.set_cons_zero, List.set_cons_succ])
   clear hwq
   refine wpAnyK_take Later.refl (fun _ _ _ h k => h.trans k) (fun _ _ h k => h.trans k) (i := 36) (oi := { dst := some 168, op := _, type := _, pos := _, after := _, guard := _ }) (v := ?_) rfl (by kernel_rfl) (by kernel_rfl) (by kernel_rfl) (fun _ _ _ h => h) (Or.inl (Or.inl ⟨by rfl, ?_⟩)) hS ?_
   rotate_left
   focus ((intro w hSw; (try dsimp only at hSw); have hx := HRY.out.later hSw; have q0 := hx.a0; have q1 := hx.a1; have p0 := hx.b0; have p1 := hx.b1; have p2 := hx.b2; have p3 := hx.b3; have c0 := hx.c0; have c1_ := hx.c1; have c2 := hx.c2; have c3 := hx.c3; have c4 := hx.c4; have c5 := hx.c5; have c6 := hx.c6; have c7 := hx.c7; have c8 := hx.c8; go_simp); (try with_reducible rfl))
   intro wq hwq
   replace hS := hS.trans hwq
   (try simp only [Act.put, List.setIfInBounds_toArray, List.set_cons_zero, List.set_cons_succ])
   clear hwq
   refine wpAnyK_take Later.refl (fun _ _ _ h k => h.trans k) (fun _ _ h k => h.trans k) (i := 37) (oi := { dst := some 169, op := _, type := _, pos := _, after := _, guard := _ }) (v := .bool b2) rfl (by kernel_rfl) (by kernel_rfl) (by kernel_rfl) (fun _ _ _ h => h) (Or.inr ⟨by rfl, 20, #[.agg #[.slice V1 s1.1.length vc1, .int .i64 s1.2.1], .agg #[.int .i64 s1.2.2.sb, .int .i64 s1.2.2.pb, .int .i64 s1.2.2.parts, .slice E1 s1.2.2.enc.length ec1]], fun W hW => ⟨?_, HM5.out W hW⟩⟩) hS ?_
   ·first | rfl | (go_simp; done)
   intro wq hwq
   replace hS := hS.trans hwq
   (try simp only [Act.put, List.setIfInBounds_toArray, List.set_cons_zero, List.set_cons_succ])
   clear hwq
   refine wpAnyK_take Later.refl (fun _ _ _ h k => h.trans k) (fun _ _ h k => h.trans k) (i := 38) (oi := { dst := some 170, op := _, type := _, pos := _, after := _, guard := _ }) (v := ?_) rfl (by kernel_rfl) (by kernel_rfl) (by kernel_rfl) (fun _ _ _ h => h) (Or.inl (Or.inl ⟨by rfl, ?_⟩)) hS ?_
   rotate_left
   focus ((intro w hSw; (try dsimp only at hSw); have hx := HRY.out.later hSw; have q0 := hx.a0; have q1 := hx.a1; have p0 := hx.b0; have p1 := hx.b1; have p2 := hx.b2; have p3 := hx.b3; have c0 := hx.c0; have c1_ := hx.c1; have c2 := hx.c2; have c3 := hx.c3; have c4 := hx.c4; have c5 := hx.c5; have c6 := hx.c6; have c7 := hx.c7; have c8 := hx.c8; go_simp); (try with_reducible rfl))
   intro wq hwq
   replace hS := hS.trans hwq
   (try simp only [Act.put, List.setIfInBounds_toArray, List.set_cons_zero, List.set_cons_succ])
   clear hwq
   refine wpAnyK_take Later.refl (fun _ _ _ h k => h.trans k) (fun _ _ h k => h.trans k) (i := 39) (oi := { dst := some 171, op := _, type := _, pos := _, after := _, guard := _ }) (v := ?_) rfl (by kernel_rfl) (by kernel_rfl) (by kernel_rfl) (fun _ _ _ h => h) (Or.inl (Or.inl ⟨by rfl, ?_⟩)) hS ?_
   rotate_left
   focus ((intro w hSw; (try dsimp only at hSw); have hx := HRY.out.later hSw; have q0 := hx.a0; have q1 := hx.a1; have p0 := hx.b0; have p1 := hx.b1; have p2 := hx.b2; have p3 := hx.b3; have c0 := hx.c0; have c1_ := hx.c1; have c2 := hx.c2; have c3 := hx.c3; have c4 := hx.c4; have c5 := hx.c5; have c6 := hx.c6; have c7 := hx.c7; have c8 := hx.c8; go_simp); (try with_reducible rfl))
   intro wq hwq
   replace hS := hS.trans hwq
   (try simp only [Act.put, List.setIfInBounds_toArray, List.set_cons_zero, List.set_cons_succ])
   clear hwq
   refine wpAnyK_take Later.refl (fun _ _ _ h k => h.trans k) (fun _ _ h k => h.trans k) (i := 40) (oi := { dst := some 172, op := _, type := _, pos := _, after := _, guard := _ }) (v := ?_) rfl (by kernel_rfl) (by kernel_rfl) (by kernel_rfl) (fun _ _ _ h => h) (Or.inl (Or.inl ⟨by rfl, ?_⟩)) hS ?_
   rotate_left
   focus ((intro w hSw; (try dsimp only at hSw); have hx := HRY.out.later hSw; have q0 := hx.a0; have q1 := hx.a1; have p0 := hx.b0; have p1 := hx.b1; have p2 := hx.b2; have p3 := hx.b3; have c0 := hx.c0; have c1_ := hx.c1; have c2 := hx.c2; have c3 := hx.c3; have c4 := hx.c4; have c5 := hx.c5; have c6 := hx.c6; have c7 := hx.c7; have c8 := hx.c8; go_simp); (try with_reducible rfl))
   intro wq hwq
   replace hS := hS.trans hwq
   (try simp only [Act.put, List.setIfInBounds_toArray, List.set_cons_zero, List.set_cons_succ])
   clear hwq
   refine wpAnyK_take Later.refl (fun _ _ _ h k => h.trans k) (fun _ _ h k => h.trans k) (i := 41) (oi := { dst := some 173, op := _, type := _, pos := _, after := _, guard := _ }) (v := ?_) rfl (by kernel_rfl) (by kernel_rfl) (by kernel_rfl) (fun _ _ _ h => h) (Or.inl (Or.inl ⟨by rfl, ?_⟩)) hS ?_
   rotate_left
   focus ((intro w hSw; (try dsimp only at hSw); have hx := HRY.out.later hSw; have q0 := hx.a0; have q1 := hx.a1; have p0 := hx.b0; have p1 := hx.b1; have p2 := hx.b2; have p3 := hx.b3; have c0 := hx.c0; have c1_ := hx.c1; have c2 := hx.c2; have c3 := hx.c3; have c4 := hx.c4; have c5 := hx.c5; have c6 := hx.c6; have c7 := hx.c7; have c8 := hx.c8; go_simp); (try with_reducible rfl))
   intro wq hwq
   replace hS := hS.trans hwq
   (try simp only [Act.put, List.setIfInBounds_toArray, List.set_cons_zero, List.set_cons_succ])
   clear hwq
   refine wpAnyK_take Later.refl (fun _ _ _ h k => h.trans k) (fun _ _ h k => h.trans k) (i := 42) (oi := { dst := some 174, op := _, type := _, pos := _, after := _, guard := _ }) (v := ?_) rfl (by kernel_rfl) (by kernel_rfl) (by kernel_rfl) (fun _ _ _ h => h) (Or.inl (Or.inl ⟨by rfl, ?_⟩)) hS ?_
   rotate_left
   focus ((intro w hSw; (try dsimp only at hSw); have hx := HRY.out.later hSw; have q0 := hx.a0; have q1 := hx.a1; have p0 := hx.b0; have p1 := hx.b1; have p2 := hx.b2; have p3 := hx.b3; have c0 := hx.c0; have c1_ := hx.c1; have c2 := hx.c2; have c3 := hx.c3; have c4 := hx.c4; have c5 := hx.c5; have c6 := hx.c6; have c7 := hx.c7; have c8 := hx.c8; go_simp); (try with_reducible rfl))
   intro wq hwq
   replace hS := hS.trans hwq
   (try simp only [Act.put, List.setIfInBounds_toArray, List.set_cons_zero, List.set_cons_succ])
   clear hwq
   refine wpAnyK_take Later.refl (fun _ _ _ h k => h.trans k) (fun _ _ h k => h.trans k) (i := 43) (oi := { dst := some 175, op := _, type := _, pos := _, after := _, guard := _ }) (v := ?_) rfl (by kernel_rfl) (by kernel_rfl) (by kernel_rfl) (fun _ _ _ h => h) (Or.inl (Or.inl ⟨by rfl, ?_⟩)) hS ?_
   rotate_left
   focus ((intro w hSw; (try dsimp only at hSw); have hx := HRY.out.later hSw; have q0 := hx.a0; have q1 := hx.a1; have p0 := hx.b0; have p1 := hx.b1; have p2 := hx.b2; have p3 := hx.b3; have c0 := hx.c0; have c1_ := hx.c1; have c2 := hx.c2; have c3 := hx.c3; have c4 := hx.c4; have c5 := hx.c5; have c6 := hx.c6; have c7 := hx.c7; have c8 := hx.c8; go_simp); (try with_reducible rfl))
   intro wq hwq
   replace hS := hS.trans hwq
   (try simp only [Act.put, List.setIfInBounds_toArray, List.set_cons_zero, List.set_cons_succ])
   clear hwq
   refine wpAnyK_take Later.refl (fun _ _ _ h k => h.trans k) (fun _ _ h k => h.trans k) (i := 44) (oi := { dst := some 176, op := _, type := _, pos := _, after := _, guard := _ }) (v := ?_) rfl (by kernel_rfl) (by kernel_rfl) (by kernel_rfl) (fun _ _ _ h => h) (Or.inl (Or.inl ⟨by rfl, ?_⟩)) hS ?_
   rotate_left
   focus ((intro w hSw; (try dsimp only at hSw); have hx := HRY.out.later hSw; have q0 := hx.a0; have q1 := hx.a1; have p0 := hx.b0; have p1 := hx.b1; have p2 := hx.b2; have p3 := hx.b3; have c0 := hx.c0; have c1_ := hx.c1; have c2 := hx.c2; have c3 := hx.c3; have c4 := hx.c4; have c5 := hx.c5; have c6 := hx.c6; have c7 := hx.c7; have c8 := hx.c8; go_simp); (try with_reducible rfl))
   intro wq hwq
   replace hS := hS.trans hwq
   (try simp only [Act.put, List.setIfInBounds_toArray, List.set_cons_zero, List.set_cons_succ])
   clear hwq
   refine wpAnyK_take Later.refl (fun _ _ _ h k => h.trans k) (fun _ _ h k => h.trans k) (i := 45) (oi := { dst := some 177, op := _, type := _, pos := _, after := _, guard := _ }) (v := ?_) rfl (by kernel_rfl) (by kernel_rfl) (by kernel_rfl) (fun _ _ _ h => h) (Or.inl (Or.inl ⟨by rfl, ?_⟩)) hS ?_
   rotate_left
   focus ((intro w hSw; (try dsimp only at hSw); have hx := HRY.out.later hSw; have q0 := hx.a0; have q1 := hx.a1; have p0 := hx.b0; have p1 := hx.b1; have p2 := hx.b2; have p3 := hx.b3; have c0 := hx.c0; have c1_ := hx.c1; have c2 := hx.c2; have c3 := hx.c3; have c4 := hx.c4; have c5 := hx.c5; have c6 := hx.c6; have c7 := hx.c7; have c8 := hx.c8; go_simp); (try with_reducible rfl))
   intro wq hwq
   replace hS := hS.trans hwq
   (try simp only [Act.put, List.setIfInBounds_toArray, List.set_cons_zero, List.set_cons_succ])
   clear hwq
   refine wpAnyK_take Later.refl (fun _ _ _ h k => h.trans k) (fun _ _ h k => h.trans k) (i := 46) (oi := { dst := some 178, op := _, type := _, pos := _, after := _, guard := _ }) (v := .bool b2) rfl (by kernel_rfl) (by kernel_rfl) (by kernel_rfl) (fun _ _ _ h => h) (Or.inr ⟨by rfl, 21, #[.agg #[.slice V1 s1.1.length vc1, .int .i64 s1.2.1], .agg #[.int .i64 s1.2.2.sb, .int .i64 s1.2.2.pb, .int .i64 s1.2.2.parts, .slice E1 s1.2.2.enc.length ec1]], fun W hW => ⟨?_, HM6.out W hW⟩⟩) hS ?_
   ·first | rfl | (go_simp; done)
   intro wq hwq
   replace hS := hS.trans hwq
   (try simp only [Act.put, List.setIfInBounds_toArray, List.set_cons_zero, List.set_cons_succ])
   clear hwq
   refine wpAnyK_take Later.refl (fun _ _ _ h k => h.trans k) (fun _ _ h k => h.trans k) (i := 47) (oi := { dst := some 179, op := _, type := _, pos := _, after := _, guard := _ }) (v := ?_) rfl (by kernel_rfl) (by kernel_rfl) (by kernel_rfl) (fun _ _ _ h => h) (Or.inl (Or.inl ⟨by rfl, ?_⟩)) hS ?_
   rotate_left
   focus ((intro w hSw; (try dsimp only at hSw); skip; go_simp); (try with_reducible rfl))
   intro wq hwq
   replace hS := hS.trans hwq
   (try simp only [Act.put, List.setIfInBounds_toArray, List.set_cons_zero, List.set_cons_succ])
   clear hwq
   refine wpAnyK_take Later.refl (fun _ _ _ h k => h.trans k) (fun _ _ h k => h.trans k) (i := 48) (oi := { dst := some 180, op := _, type := _, pos := _, after := _, guard := _ }) (v := ?_) rfl (by kernel_rfl) (by kernel_rfl) (by kernel_rfl) (fun _ _ _ h => h) (Or.inl (Or.inl ⟨by rfl, ?_⟩)) hS ?_
   rotate_left
   focus ((intro w hSw; (try dsimp only at hSw); skip; go_simp); (try with_reducible rfl))
   intro wq hwq
   replace hS := hS.trans hwq
   (try simp only [Act.put, List.setIfInBounds_toArray, List.set_cons_zero, List.set_cons_succ])
   clear hwq
   refine wpAnyK_done (by kernel_rfl) ?_ _
   go_wp2_with fail
   go_meet
   exact ⟨rfl, hS⟩
  case rest =>
  obtain ⟨rfl, lx⟩ := hcut
  have HRZ := Lib.hid (HRY.out.later lx)
  have HLZ := Lib.hid (HLY.out.trans lx)
  clear lx HM1 HM2 HM3 HM4 HM5 HM6 HA6 HA7 HB6 HB7 HLY HRY
  have HF1 := Lib.hid (fun (W : World) (l : Later wc W) => find_any V1 s1.1.length vc1 s1.2.1 s1.1 nm W rfl (by have := HRZ.out.ln; omega) (HRZ.out.hv.later l))
  have HF2 := Lib.hid (fun (W : World) (l : Later wc W) => refFind_any V1 s1.1.length vc1 s1.2.1 s1.1 nm W rfl (by have := HRZ.out.ln; omega) (HRZ.out.hv.later l))
  have HF3 := Lib.hid (fun (W : World) (l : Later wc W) => byID_any V1 s1.1.length vc1 s1.2.1 s1.1 id W rfl (by have := HRZ.out.ln; omega) (HRZ.out.hv.later l))
  have HF4 := Lib.hid (fun (W : World) (l : Later wc W) => refByID_any V1 s1.1.length vc1 s1.2.1 s1.1 id W rfl (by have := HRZ.out.ln; omega) (HRZ.out.hv.later l))
  generalize findC s1.1 nm = fo at HF1 HF2
  generalize findI s1.1 id = io at HF3 HF4
  have HG1 := Lib.hid (fun (W : World) (l : Later wc W) => (schFits_any V1 R s1.1.length vc1 rn rc s1.2.1 s1.1 row W (H39.out.later (HLZ.out.trans l)) rfl HRN.out (by have := HRZ.out.ln; omega) (by have := HSZ.out.1; omega) (HRZ.out.hv.later l) (HR9.out.later (HLZ.out.trans l))).mono fun e w' h => TellsP.tp h)
  have HG2 := Lib.hid (fun (W : World) (l : Later wc W) => (refFitsR_any V1 R s1.1.length vc1 rn rc s1.2.1 s1.1 row W rfl HRN.out (by have := HRZ.out.ln; omega) (by have := HSZ.out.1; omega) (HRZ.out.hv.later l) (HR9.out.later (HLZ.out.trans l))).mono fun e w' h => TellsP.tp h)
  generalize tp (FitsL s1.1 row) = b3 at HG1 HG2
  have q0 := HRZ.out.a0
  have q1 := HRZ.out.a1
  go_wp2_with fail
  refine (HF1.out _ (Later.refl _)).mono ?_
  rintro e w10 ⟨rfl, l10⟩
  replace q0 := l10.cell q0
  replace q1 := l10.cell q1
  have HLA := Lib.hid l10
  clear l10
  go_wp2_with fail
  refine (HF2.out _ HLA.out).mono ?_
  rintro e w11 ⟨rfl, l11⟩
  replace q0 := l11.cell q0
  replace q1 := l11.cell q1
  replace HLA := Lib.hid (HLA.out.trans l11)
  clear l11
  go_wp2_with fail
  refine (HF3.out _ HLA.out).mono ?_
  rintro e w12 ⟨rfl, l12⟩
  replace q0 := l12.cell q0
  replace q1 := l12.cell q1
  replace HLA := Lib.hid (HLA.out.trans l12)
  clear l12
  go_wp2_with fail
  refine (HF4.out _ HLA.out).mono ?_
  rintro e w13 ⟨rfl, l13⟩
  replace HLA := Lib.hid (HLA.out.trans l13)
  clear l13 q0 q1 HF1 HF2 HF3 HF4
  have HRZ := Lib.hid (HRZ.out.later HLA.out)
  generalize ((fo.getD 0 : Nat) : Int) = f1
  generalize fo.isSome = f2
  generalize ((io.getD 0 : Nat) : Int) = f3
  generalize io.isSome = f4
  go_upto_region 20 with fail
  go_cut [249] from 181 to 249 (fun cv wx => cv = .bool false ∧ Later w13 wx)
  case first => as_aux_lemma =>
   refine wp_region_K (S := fun W : World => Later w13 W) (R := Later) (fun _ => Later.refl _) (by kernel_rfl) ?_
   have hS : (fun W : World => Later w13 W) w13.drew := (Later.refl w13).drew
   refine wpAnyK_take Later.refl (fun _ _ _ h k => h.trans k) (fun _ _ h k => h.trans k) (i := 0) (oi := { dst := some 217, op := _, type := _, pos := _, after := _, guard := _ }) (v := ?_) rfl (by kernel_rfl) (by kernel_rfl) (by kernel_rfl) (fun _ _ _ h => h) (Or.inl (Or.inl ⟨by rfl, ?_⟩)) hS ?_
   rotate_left
   focus ((intro w hSw; (try dsimp only at hSw); skip; go_simp); (try with_reducible rfl))
   intro wq hwq
   replace hS := hS.trans hwq
   (try simp only [Act.put, List.setIfInBounds_toArray, List.set_cons_zero, List.set_cons_succ])
   clear hwq
   refine wpAnyK_take Later.refl (fun _ _ _ h k => h.trans k) (fun _ _ h k => h.trans k) (i := 1) (oi := { dst := some 218, op := _, type := _, pos := _, after := _, guard := _ }) (v := ?_) rfl (by kernel_rfl) (by kernel_rfl) (by kernel_rfl) (fun _ _ _ h => h) (Or.inl (Or.inl ⟨by rfl, ?_⟩)) hS ?_
   rotate_left
   focus ((intro w hSw; (try dsimp only at hSw); skip; go_simp); (try with_reducible rfl))
   intro wq hwq
   replace hS := hS.trans hwq
   (try simp only [Act.put, List.setIfInBounds_toArray, List.set_cons_zero, List.set_cons_succ])
   clear hwq
   refine wpAnyK_take Later.refl (fun _ _ _ h k => h.trans k) (fun _ _ h k => h.trans k) (i := 2) (oi := { dst := some 219, op := _, type := _, pos := _, after := _, guard := _ }) (v := ?_) rfl (by kernel_rfl) (by kernel_rfl) (by kernel_rfl) (fun _ _ _ h => h) (Or.inl (Or.inl ⟨by rfl, ?_⟩)) hS ?_
   rotate_left
   focus ((intro w hSw; (try dsimp only at hSw); skip; go_simp); (try with_reducible rfl))
   intro wq hwq
   replace hS := hS.trans hwq
   (try simp only [Act.put, List.setIfInBounds_toArray, List.set_cons_zero, List.set_cons_succ])
   clear hwq
   refine wpAnyK_take Later.refl (fun _ _ _ h k => h.trans k) (fun _ _ h k => h.trans k) (i := 3) (oi := { dst := some 220, op := _, type := _, pos := _, after := _, guard := _ }) (v := ?_) rfl (by kernel_rfl) (by kernel_rfl) (by kernel_rfl) (fun _ _ _ h => h) (Or.inl (Or.inl ⟨by rfl, ?_⟩)) hS ?_
   rotate_left
   focus ((intro w hSw; (try dsimp only at hSw); skip; go_simp); (try with_reducible rfl))
   intro wq hwq
   replace hS := hS.trans hwq
   (try simp only [Act.put, List.setIfInBounds_toArray, List.set_cons_zero, List.set_cons_succ])
   clear hwq
   refine wpAnyK_take Later.refl (fun _ _ _ h k => h.trans k) (fun _ _ h k => h.trans k) (i := 4) (oi := { dst := some 221, op := _, type := _, pos := _, after := _, guard := _ }) (v := ?_) rfl (by kernel_rfl) (by kernel_rfl) (by kernel_rfl) (fun _ _ _ h => h) (Or.inl (Or.inl ⟨by rfl, ?_⟩)) hS ?_
   rotate_left
   focus ((intro w hSw; (try dsimp only at hSw); skip; go_simp); (try with_reducible rfl))
   intro wq hwq
   replace hS := hS.trans hwq
   (try simp only [Act.put, List.setIfInBounds_toArray, List.set_cons_zero, List.set_cons_succ])
   clear hwq
   refine wpAnyK_take Later.refl (fun _ _ _ h k => h.trans k) (fun _ _ h k => h.trans k) (i := 5) (oi := { dst := some 222, op := _, type := _, pos := _, after := _, guard := _ }) (v := ?_) rfl (by kernel_rfl) (by kernel_rfl) (by kernel_rfl) (fun _ _ _ h => h) (Or.inl (Or.inl ⟨by rfl, ?_⟩)) hS ?_
   rotate_left
   focus ((intro w hSw; (try dsimp only at hSw); skip; go_simp); (try with_reducible rfl))
   intro wq hwq
   replace hS := hS.trans hwq
   (try simp only [Act.put, List.setIfInBounds_toArray, List.set_cons_zero, List.set_cons_succ])
   clear hwq
   refine wpAnyK_take Later.refl (fun _ _ _ h k => h.trans k) (fun _ _ h k => h.trans k) (i := 6) (oi := { dst := some 223, op := _, type := _, pos := _, after := _, guard := _ }) (v := ?_) rfl (by kernel_rfl) (by kernel_rfl) (by kernel_rfl) (fun _ _ _ h => h) (Or.inl (Or.inl ⟨by rfl, ?_⟩)) hS ?_
   rotate_left
   focus ((intro w hSw; (try dsimp only at hSw); skip; go_simp); (try with_reducible rfl))
   intro wq hwq
   replace hS := hS.trans hwq
   (try simp only [Act.put, List.setIfInBounds_toArray, List.set_cons_zero, List.set_cons_succ])
   clear hwq
   refine wpAnyK_take Later.refl (fun _ _ _ h k => h.trans k) (fun _ _ h k => h.trans k) (i := 7) (oi := { dst := some 224, op := _, type := _, pos := _, after := _, guard := _ }) (v := ?_) rfl (by kernel_rfl) (by kernel_rfl) (by kernel_rfl) (fun _ _ _ h => h) (Or.inl (Or.inl ⟨by rfl, ?_⟩)) hS ?_
   rotate_left
   focus ((intro w hSw; (try dsimp only at hSw); skip; go_simp); (try with_reducible rfl))
   intro wq hwq
   replace hS := hS.trans hwq
   (try simp only [Act.put, List.setIfInBounds_toArray, List.set_cons_zero, List.set_cons_succ])
   clear hwq
   refine wpAnyK_take Later.refl (fun _ _ _ h k => h.trans k) (fun _ _ h k => h.trans k) (i := 8) (oi := { dst := some 225, op := _, type := _, pos := _, after := _, guard := _ }) (v := ?_) rfl (by kernel_rfl) (by kernel_rfl) (by kernel_rfl) (fun _ _ _ h => h) (Or.inl (Or.inl ⟨by rfl, ?_⟩)) hS ?_
   rotate_left
   focus ((intro w hSw; (try dsimp only at hSw); skip; go_simp); (try with_reducible rfl))
   intro wq hwq
   replace hS := hS.trans hwq
   (try simp only [Act.put, List.setIfInBounds_toArray, List.set_cons_zero, List.set_cons_succ])
   clear hwq
   refine wpAnyK_take Later.refl (fun _ _ _ h k => h.trans k) (fun _ _ h k => h.trans k) (i := 9) (oi := { dst := some 226, op := _, type := _, pos := _, after := _, guard := _ }) (v := ?_) rfl (by kernel_rfl) (by kernel_rfl) (by kernel_rfl) (fun _ _ _ h => h) (Or.inl (Or.inl ⟨by rfl, ?_⟩)) hS ?_
   rotate_left
   focus ((intro w hSw; (try dsimp only at hSw); skip; go_simp); (try with_reducible rfl))
   intro wq hwq
   replace hS := hS.trans hwq
   (try simp only [Act.put, List.setIfInBounds_toArray, List.set_cons_zero, List.set_cons_succ])
   clear hwq
   refine wpAnyK_take Later.refl (fun _ _ _ h k => h.trans k) (fun _ _ h k => h.trans k) (i := 10) (oi := { dst := some 227, op := _, type := _, pos := _, after := _, guard := _ }) (v := ?_) rfl (by kernel_rfl) (by kernel_rfl) (by kernel_rfl) (fun _ _ _ h => h) (Or.inl (Or.inl ⟨by rfl, ?_⟩)) hS ?_
   rotate_left
   focus ((intro w hSw; (try dsimp only at hSw); skip; go_simp); (try with_reducible rfl))
   intro wq hwq
   replace hS := hS.trans hwq
   (try simp only [Act.put, List.setIfInBounds_toArray, List.set_cons_zero, List.set_cons_succ])
   clear hwq
   refine wpAnyK_take Later.refl (fun _ _ _ h k => h.trans k) (fun _ _ h k => h.trans k) (i := 11) (oi := { dst := some 228, op := _, type := _, pos := _, after := _, guard := _ }) (v := ?_) rfl (by kernel_rfl) (by kernel_rfl) (by kernel_rfl) (fun _ _ _ h => h) (Or.inl (Or.inl ⟨by rfl, ?_⟩)) hS ?_
   rotate_left
   focus ((intro w hSw; (try dsimp only at hSw); skip; go_simp); (try with_reducible rfl))
   intro wq hwq
   replace hS := hS.trans hwq
   (try simp only [Act.put, List.setIfInBounds_toArray, List.set_cons_zero, List.set_cons_succ])
   clear hwq
   refine wpAnyK_take Later.refl (fun _ _ _ h k => h.trans k) (fun _ _ h k => h.trans k) (i := 12) (oi := { dst := some 229, op := _, type := _, pos := _, after := _, guard := _ }) (v := ?_) rfl (by kernel_rfl) (by kernel_rfl) (by kernel_rfl) (fun _ _ _ h => h) (Or.inl (Or.inl ⟨by rfl, ?_⟩)) hS ?_
   rotate_left
   focus ((intro w hSw; (try dsimp only at hSw); skip; go_simp); (try with_reducible rfl))
   intro wq hwq
   replace hS := hS.trans hwq
   (try simp only [Act.put, List.setIfInBounds_toArray, List.set_cons_zero, List.set_cons_succ])
   clear hwq
   refine wpAnyK_take Later.refl (fun _ _ _ h k => h.trans k) (fun _ _ h k => h.trans k) (i := 13) (oi := { dst := some 230, op := _, type := _, pos := _, after := _, guard := _ }) (v := ?_) rfl (by kernel_rfl) (by kernel_rfl) (by kernel_rfl) (fun _ _ _ h => h) (Or.inl (Or.inl ⟨by rfl, ?_⟩)) hS ?_
   rotate_left
   focus ((intro w hSw; (try dsimp only at hSw); skip; go_simp); (try with_reducible rfl))
   intro wq hwq
   replace hS := hS.trans hwq
   (try simp only [Act.put, List.setIfInBounds_toArray, List.set_cons_zero, List.set_cons_succ])
   clear hwq
   refine wpAnyK_take Later.refl (fun _ _ _ h k => h.trans k) (fun _ _ h k => h.trans k) (i := 14) (oi := { dst := some 231, op := _, type := _, pos := _, after := _, guard := _ }) (v := ?_) rfl (by kernel_rfl) (by kernel_rfl) (by kernel_rfl) (fun _ _ _ h => h) (Or.inl (Or.inl ⟨by rfl, ?_⟩)) hS ?_
   rotate_left
   focus ((intro w hSw; (try dsimp only at hSw); skip; go_simp); (try with_reducible rfl))
   intro wq hwq
   replace hS := hS.trans hwq
   (try simp only [Act.put, List.setIfInBounds_toArray, List.set_cons_zero, List.set_cons_succ])
   clear hwq
   refine wpAnyK_take Later.refl (fun _ _ _ h k => h.trans k) (fun _ _ h k => h.trans k) (i := 15) (oi := { dst := some 232, op := _, type := _, pos := _, after := _, guard := _ }) (v := ?_) rfl (by kernel_rfl) (by kernel_rfl) (by kernel_rfl) (fun _ _ _ h => h) (Or.inl (Or.inl ⟨by rfl, ?_⟩)) hS ?_
   rotate_left
   focus ((intro w hSw; (try dsimp only at hSw); skip; go_simp); (try with_reducible rfl))
   intro wq hwq
   replace hS := hS.trans hwq
   (try simp only [Act.put, List.setIfInBounds_toArray, List.set_cons_zero, List.set_cons_succ])
   clear hwq
   refine wpAnyK_take Later.refl (fun _ _ _ h k => h.trans k) (fun _ _ h k => h.trans k) (i := 16) (oi := { dst := some 233, op := _, type := _, pos := _, after := _, guard := _ }) (v := ?_) rfl (by kernel_rfl) (by kernel_rfl) (by kernel_rfl) (fun _ _ _ h => h) (Or.inl (Or.inl ⟨by rfl, ?_⟩)) hS ?_
   rotate_left
   focus ((intro w hSw; (try dsimp only at hSw); skip; go_simp); (try with_reducible rfl))
   intro wq hwq
   replace hS := hS.trans hwq
   (try simp only [Act.put, List.setIfInBounds_toArray, List.set_cons_zero, List.set_cons_succ])
   clear hwq
   refine wpAnyK_take Later.refl (fun _ _ _ h k => h.trans k) (fun _ _ h k => h.trans k) (i := 17) (oi := { dst := some 234, op := _, type := _, pos := _, after := _, guard := _ }) (v := ?_) rfl (by kernel_rfl) (by kernel_rfl) (by kernel_rfl) (fun _ _ _ h => h) (Or.inl (Or.inl ⟨by rfl, ?_⟩)) hS ?_
   rotate_left
   focus ((intro w hSw; (try dsimp only at hSw); skip; go_simp); (try with_reducible rfl))
   intro wq hwq
   replace hS := hS.trans hwq
   (try simp only [Act.put, List.setIfInBounds_toArray, List.set_cons_zero, List.set_cons_succ])
   clear hwq
   refine wpAnyK_take Later.refl (fun _ _ _ h k => h.trans k) (fun _ _ h k => h.trans k) (i := 18) (oi := { dst := some 235, op := _, type := _, pos := _, after := _, guard := _ }) (v := ?_) rfl (by kernel_rfl) (by kernel_rfl) (by kernel_rfl) (fun _ _ _ h => h) (Or.inl (Or.inl ⟨by rfl, ?_⟩)) hS ?_
   rotate_left
   focus ((intro w hSw; (try dsimp only at hSw); skip; go_simp); (try with_reducible rfl))
   intro wq hwq
   replace hS := hS.trans hwq
   (try simp only [Act.put, List.setIfInBounds_toArray, List.set_cons_zero, List.set_cons_succ])
   clear hwq
   refine wpAnyK_take Later.refl (fun _ _ _ h k => h.trans k) (fun _ _ h k => h.trans k) (i := 19) (oi := { dst := some 236, op := _, type := _, pos := _, after := _, guard := _ }) (v := ?_) rfl (by kernel_rfl) (by kernel_rfl) (by kernel_rfl) (fun _ _ _ h => h) (Or.inl (Or.inl ⟨by rfl, ?_⟩)) hS ?_
   rotate_left
   focus ((intro w hSw; (try dsimp only at hSw); have hx := HRZ.out.later hSw; have q0 := hx.a0; have q1 := hx.a1; have p0 := hx.b0; have p1 := hx.b1; have p2 := hx.b2; have p3 := hx.b3; have c0 := hx.c0; have c1_ := hx.c1; have c2 := hx.c2; have c3 := hx.c3; have c4 := hx.c4; have c5 := hx.c5; have c6 := hx.c6; have c7 := hx.c7; have c8 := hx.c8; go_simp); (try with_reducible rfl))
   intro wq hwq
   replace hS := hS.trans hwq
   (try simp only [Act.put, List.setIfInBounds_toArray, List.set_cons_zero, List.set_cons_succ])
   clear hwq
   refine wpAnyK_take Later.refl (fun _ _ _ h k => h.trans k) (fun _ _ h k => h.trans k) (i := 20) (oi := { dst := some 237, op := _, type := _, pos := _, after := _, guard := _ }) (v := ?_) rfl (by kernel_rfl) (by kernel_rfl) (by kernel_rfl) (fun _ _ _ h => h) (Or.inl (Or.inl ⟨by rfl, ?_⟩)) hS ?_
   rotate_left
   focus ((intro w hSw; (try dsimp only at hSw); have hx := HRZ.out.later hSw; have q0 := hx.a0; have q1 := hx.a1; have p0 := hx.b0; have p1 := hx.b1; have p2 := hx.b2; have p3 := hx.b3; have c0 := hx.c0; have c1_ := hx.c1; have c2 := hx.c2; have c3 := hx.c3; have c4 := hx.c4; have c5 := hx.c5; have c6 := hx.c6; have c7 := hx.c7; have c8 := hx.c8; go_simp); (try with_reducible rfl))
   intro wq hwq
   replace hS := hS.trans hwq
   (try simp only [Act.put, List.setIfInBounds_toArray, List.set_cons_zero, List.set_cons_succ])
   clear hwq
   refine wpAnyK_take Later.refl (fun _ _ _ h k => h.trans k) (fun _ _ h k => h.trans k) (i := 21) (oi := { dst := some 238, op := _, type := _, pos := _, after := _, guard := _ }) (v := ?_) rfl (by kernel_rfl) (by kernel_rfl) (by kernel_rfl) (fun _ _ _ h => h) (Or.inl (Or.inl ⟨by rfl, ?_⟩)) hS ?_
   rotate_left
   focus ((intro w hSw; (try dsimp only at hSw); have hx := HRZ.out.later hSw; have q0 := hx.a0; have q1 := hx.a1; have p0 := hx.b0; have p1 := hx.b1; have p2 := hx.b2; have p3 := hx.b3; have c0 := hx.c0; have c1_ := hx.c1; have c2 := hx.c2; have c3 := hx.c3; have c4 := hx.c4; have c5 := hx.c5; have c6 := hx.c6; have c7 := hx.c7; have c8 := hx.c8; go_simp); (try with_reducible rfl))
   intro wq hwq
   replace hS := hS.trans hwq
   (try simp only [Act.put, List.setIfInBounds_toArray, List.set_cons_zero, List.set_cons_succ])
   clear hwq
   refine wpAnyK_take Later.refl (fun _ _ _ h k => h.trans k) (fun _ _ h k => h.trans k) (i := 22) (oi := { dst := some 239, op := _, type := _, pos := _, after := _, guard := _ }) (v := ?_) rfl (by kernel_rfl) (by kernel_rfl) (by kernel_rfl) (fun _ _ _ h => h) (Or.inl (Or.inl ⟨by rfl, ?_⟩)) hS ?_
   rotate_left
   focus ((intro w hSw; (try dsimp only at hSw); have hx := HRZ.out.later hSw; have q0 := hx.a0; have q1 := hx.a1; have p0 := hx.b0; have p1 := hx.b1; have p2 := hx.b2; have p3 := hx.b3; have c0 := hx.c0; have c1_ := hx.c1; have c2 := hx.c2; have c3 := hx.c3; have c4 := hx.c4; have c5 := hx.c5; have c6 := hx.c6; have c7 := hx.c7; have c8 := hx.c8; go_simp); (try with_reducible rfl))
   intro wq hwq
   replace hS := hS.trans hwq
   (try simp only [Act.put, List.setIfInBounds_toArray, List.set_cons_zero, List.set_cons_succ])
   clear hwq
   refine wpAnyK_take Later.refl (fun _ _ _ h k => h.trans k) (fun _ _ h k => h.trans k) (i := 23) (oi := { dst := some 240, op := _, type := _, pos := _, after := _, guard := _ }) (v := ?_) rfl (by kernel_rfl) (by kernel_rfl) (by kernel_rfl) (fun _ _ _ h => h) (Or.inl (Or.inl ⟨by rfl, ?_⟩)) hS ?_
   rotate_left
   focus ((intro w hSw; (try dsimp only at hSw); have hx := HRZ.out.later hSw; have q0 := hx.a0; have q1 := hx.a1; have p0 := hx.b0; have p1 := hx.b1; have p2 := hx.b2; have p3 := hx.b3; have c0 := hx.c0; have c1_ := hx.c1; have c2 := hx.c2; have c3 := hx.c3; have c4 := hx.c4; have c5 := hx.c5; have c6 := hx.c6; have c7 := hx.c7; have c8 := hx.c8; go_simp); (try with_reducible rfl))
   intro wq hwq
   replace hS := hS.trans hwq
   (try simp only [Act.put, List.setIfInBounds_toArray, List.set_cons_zero, List.set_cons_succ])
   clear hwq
   refine wpAnyK_take Later.refl (fun _ _ _ h k => h.trans k) (fun _ _ h k => h.trans k) (i := 24) (oi := { dst := some 241, op := _, type := _, pos := _, after := _, guard := _ }) (v := .bool b3) rfl (by kernel_rfl) (by kernel_rfl) (by kernel_rfl) (fun _ _ _ h => h) (Or.inr ⟨by rfl, 26, #[.agg #[.slice V1 s1.1.length vc1, .int .i64 s1.2.1], .slice R rn rc], fun W hW => ⟨?_, HG1.out W (HLA.out.trans hW)⟩⟩) hS ?_
   ·first | rfl | (go_simp; done)
   intro wq hwq
   replace hS := hS.trans hwq
   (try simp only [Act.put, List.setIfInBounds_toArray, List.set_cons_zero, List.set_cons_succ])
   clear hwq
   refine wpAnyK_take Later.refl (fun _ _ _ h k => h.trans k) (fun _ _ h k => h.trans k) (i := 25) (oi := { dst := some 242, op := _, type := _, pos := _, after := _, guard := _ }) (v := ?_) rfl (by kernel_rfl) (by kernel_rfl) (by kernel_rfl) (fun _ _ _ h => h) (Or.inl (Or.inl ⟨by rfl, ?_⟩)) hS ?_
   rotate_left
   focus ((intro w hSw; (try dsimp only at hSw); have hx := HRZ.out.later hSw; have q0 := hx.a0; have q1 := hx.a1; have p0 := hx.b0; have p1 := hx.b1; have p2 := hx.b2; have p3 := hx.b3; have c0 := hx.c0; have c1_ := hx.c1; have c2 := hx.c2; have c3 := hx.c3; have c4 := hx.c4; have c5 := hx.c5; have c6 := hx.c6; have c7 := hx.c7; have c8 := hx.c8; go_simp); (try with_reducible rfl))
   intro wq hwq
   replace hS := hS.trans hwq
   (try simp only [Act.put, List.setIfInBounds_toArray, List.set_cons_zero, List.set_cons_succ])
   clear hwq
   refine wpAnyK_take Later.refl (fun _ _ _ h k => h.trans k) (fun _ _ h k => h.trans k) (i := 26) (oi := { dst := some 243, op := _, type := _, pos := _, after := _, guard := _ }) (v := ?_) rfl (by kernel_rfl) (by kernel_rfl) (by kernel_rfl) (fun _ _ _ h => h) (Or.inl (Or.inl ⟨by rfl, ?_⟩)) hS ?_
   rotate_left
   focus ((intro w hSw; (try dsimp only at hSw); have hx := HRZ.out.later hSw; have q0 := hx.a0; have q1 := hx.a1; have p0 := hx.b0; have p1 := hx.b1; have p2 := hx.b2; have p3 := hx.b3; have c0 := hx.c0; have c1_ := hx.c1; have c2 := hx.c2; have c3 := hx.c3; have c4 := hx.c4; have c5 := hx.c5; have c6 := hx.c6; have c7 := hx.c7; have c8 := hx.c8; go_simp); (try with_reducible rfl))
   intro wq hwq
   replace hS := hS.trans hwq
   (try simp only [Act.put, List.setIfInBounds_toArray, List.set_cons_zero, List.set_cons_succ])
   clear hwq
   refine wpAnyK_take Later.refl (fun _ _ _ h k => h.trans k) (fun _ _ h k => h.trans k) (i := 27) (oi := { dst := some 244, op := _, type := _, pos := _, after := _, guard := _ }) (v := ?_) rfl (by kernel_rfl) (by kernel_rfl) (by kernel_rfl) (fun _ _ _ h => h) (Or.inl (Or.inl ⟨by rfl, ?_⟩)) hS ?_
   rotate_left
   focus ((intro w hSw; (try dsimp only at hSw); have hx := HRZ.out.later hSw; have q0 := hx.a0; have q1 := hx.a1; have p0 := hx.b0; have p1 := hx.b1; have p2 := hx.b2; have p3 := hx.b3; have c0 := hx.c0; have c1_ := hx.c1; have c2 := hx.c2; have c3 := hx.c3; have c4 := hx.c4; have c5 := hx.c5; have c6 := hx.c6; have c7 := hx.c7; have c8 := hx.c8; go_simp); (try with_reducible rfl))
   intro wq hwq
   replace hS := hS.trans hwq
   (try simp only [Act.put, List.setIfInBounds_toArray, List.set_cons_zero, List.set_cons_succ])
   clear hwq
   refine wpAnyK_take Later.refl (fun _ _ _ h k => h.trans k) (fun _ _ h k => h.trans k) (i := 28) (oi := { dst := some 245, op := _, type := _, pos := _, after := _, guard := _ }) (v := ?_) rfl (by kernel_rfl) (by kernel_rfl) (by kernel_rfl) (fun _ _ _ h => h) (Or.inl (Or.inl ⟨by rfl, ?_⟩)) hS ?_
   rotate_left
   focus ((intro w hSw; (try dsimp only at hSw); have hx := HRZ.out.later hSw; have q0 := hx.a0; have q1 := hx.a1; have p0 := hx.b0; have p1 := hx.b1; have p2 := hx.b2; have p3 := hx.b3; have c0 := hx.c0; have c1_ := hx.c1; have c2 := hx.c2; have c3 := hx.c3; have c4 := hx.c4; have c5 := hx.c5; have c6 := hx.c6; have c7 := hx.c7; have c8 := hx.c8; go_simp); (try with_reducible rfl))
   intro wq hwq
   replace hS := hS.trans hwq
   (try simp only [Act.put, List.setIfInBounds_toArray, List.set_cons_zero, List.set_cons_succ])
   clear hwq
   refine wpAnyK_take Later.refl (fun _ _ _ h k => h.trans k) (fun _ _ h k => h.trans k) (i := 29) (oi := { dst := some 246, op := _, type := _, pos := _, after := _, guard := _ }) (v := ?_) rfl (by kernel_rfl) (by kernel_rfl) (by kernel_rfl) (fun _ _ _ h => h) (Or.inl (Or.inl ⟨by rfl, ?_⟩)) hS ?_
   rotate_left
   focus ((intro w hSw; (try dsimp only at hSw); have hx := HRZ.out.later hSw; have q0 := hx.a0; have q1 := hx.a1; have p0 := hx.b0; have p1 := hx.b1; have p2 := hx.b2; have p3 := hx.b3; have c0 := hx.c0; have c1_ := hx.c1; have c2 := hx.c2; have c3 := hx.c3; have c4 := hx.c4; have c5 := hx.c5; have c6 := hx.c6; have c7 := hx.c7; have c8 := hx.c8; go_simp); (try with_reducible rfl))
   intro wq hwq
   replace hS := hS.trans hwq
   (try simp only [Act.put, List.setIfInBounds_toArray, List.set_cons_zero, List.set_cons_succ])
   clear hwq
   refine wpAnyK_take Later.refl (fun _ _ _ h k => h.trans k) (fun _ _ h k => h.trans k) (i := 30) (oi := { dst := some 247, op := _, type := _, pos := _, after := _, guard := _ }) (v := .bool b3) rfl (by kernel_rfl) (by kernel_rfl) (by kernel_rfl) (fun _ _ _ h => h) (Or.inr ⟨by rfl, 27, #[.agg #[.slice V1 s1.1.length vc1, .int .i64 s1.2.1], .slice R rn rc], fun W hW => ⟨?_, HG2.out W (HLA.out.trans hW)⟩⟩) hS ?_
   ·first | rfl | (go_simp; done)
   intro wq hwq
   replace hS := hS.trans hwq
   (try simp only [Act.put, List.setIfInBounds_toArray, List.set_cons_zero, List.set_cons_succ])
   clear hwq
   refine wpAnyK_take Later.refl (fun _ _ _ h k => h.trans k) (fun _ _ h k => h.trans k) (i := 31) (oi := { dst := some 248, op := _, type := _, pos := _, after := _, guard := _ }) (v := ?_) rfl (by kernel_rfl) (by kernel_rfl) (by kernel_rfl) (fun _ _ _ h => h) (Or.inl (Or.inl ⟨by rfl, ?_⟩)) hS ?_
   rotate_left
   focus ((intro w hSw; (try dsimp only at hSw); skip; go_simp); (try with_reducible rfl))
   intro wq hwq
   replace hS := hS.trans hwq
   (try simp only [Act.put, List.setIfInBounds_toArray, List.set_cons_zero, List.set_cons_succ])
   clear hwq
   refine wpAnyK_take Later.refl (fun _ _ _ h k => h.trans k) (fun _ _ h k => h.trans k) (i := 32) (oi := { dst := some 249, op := _, type := _, pos := _, after := _, guard := _ }) (v := ?_) rfl (by kernel_rfl) (by kernel_rfl) (by kernel_rfl) (fun _ _ _ h => h) (Or.inl (Or.inl ⟨by rfl, ?_⟩)) hS ?_
   rotate_left
   focus ((intro w hSw; (try dsimp only at hSw); skip; go_simp); (try with_reducible rfl))
   intro wq hwq
   replace hS := hS.trans hwq
   (try simp only [Act.put, List.setIfInBounds_toArray, List.set_cons_zero, List.set_cons_succ])
   clear hwq
   refine wpAnyK_done (by kernel_rfl) ?_ _
   go_wp2_with fail
   go_meet
   exact ⟨rfl, hS⟩
  case rest =>
  obtain ⟨rfl, lx⟩ := hcut
  have HLZ := Lib.hid (HLZ.out.trans (HLA.out.trans lx))
  clear lx HLA HG1 HG2 HRZ
  go_wp2_with fail
  go_roundw
  case rel => exact ⟨k + 1, hlt, by go_num, HLZ.out⟩
  case measure => simp [intOf]; omega
end Go.Proofs.YtklohbglkbhjhaaDoor
