/- The walk of SchemaBack. -/
import Derived.Test.YtklohbglkbhjhaaDoorSchR
import Derived.Test.YtklohbglkbhjhaaDoorSameS
import Derived.Test.YtklohbglkbhjhaaDoorStayM
import Derived.Test.YtklohbglkbhjhaaDoorIdsA
import Derived.Test.YtklohbglkbhjhaaDoorFam
import Derived.Deep.CutBlock
import Derived.Great.BuildSlice
namespace Go.Proofs.YtklohbglkbhjhaaDoor
open Go.RowKit
set_option linter.unusedVariables false

def cvC (c : Chg) : List Value := [.int .i64 c.kind, .int .i64 c.col, .string c.name, .int .i64 c.typ, .int .i64 c.val.1, .int .i64 c.val.2.1, .string c.val.2.2, .int .u8 c.sep, .int .i64 c.num]
def chs (a b : Chg) : List Value := cvC a ++ cvC b
theorem info_chb : (Tryd.prog.info? 31).map (fun i => (i.zero, i.size, i.bytes)) = some (some (.agg #[.int .i64 0, .int .i64 0, .string ⟨#[]⟩, .int .i64 0, .int .i64 0, .int .i64 0, .string ⟨#[]⟩, .int .u8 0, .int .i64 0]), 9, 88) := by kernel_rfl
theorem info_slc : (Tryd.prog.info? 44).map (fun i => (i.zero, i.size, i.bytes)) = some (some (.slice none 0 0), 1, 24) := by kernel_rfl
/-- A literal of two changes. -/
theorem make_pair (w : World) (a b : Chg) : (Instr.buildSlice 44 2 #[(0, .agg (cvC a).toArray), (1, .agg (cvC b).toArray)]).run Tryd.prog w = .ok (.slice (some ⟨w.heap.size, 0, none⟩) 2 2) (w.alloc (.cells (chs a b).toArray 31)) := by
  obtain ⟨ich, hich, hzch, hsch, _⟩ := info_parts info_chb
  exact run_buildSlice w 44 31 2 _ (chs a b).toArray ich _ Tryd.underlying44 hich hzch (by rw [hsch]; decide) (by rw [hsch]; decide) (by rw [hsch]; kernel_rfl)
theorem exec_pair (ev : Operand → Value) (o : Oper) (t1 t2 : Operand) (w : World) (ho : o.op = .buildSlice 44 2 #[(0, t1), (1, t2)]) (a b : Chg) (h1 : ev t1 = .agg (cvC a).toArray) (h2 : ev t2 = .agg (cvC b).toArray) :
    (execOp ev o).run Tryd.prog w = .ok (.value (.slice (some ⟨w.heap.size, 0, none⟩) 2 2)) (w.alloc (.cells (chs a b).toArray 31)) := by
  unfold execOp
  have e : (#[((0 : Nat), t1), (1, t2)].map fun (i, x) => (i, ev x)) = #[(0, .agg (cvC a).toArray), (1, .agg (cvC b).toArray)] := by simp [h1, h2]
  simp only [ho, Sem.run_bind, e, make_pair, Result.andThen_ok, Sem.run_pure]
theorem wp_five {o : Oper} {a : Act} {w : World} {K : Act → World → Prop} {Q : Exit → Act → World → Prop} (t1 t2 t3 t4 t5 : Operand) (ho : o.op = .buildSlice 61 5 #[(0, t1), (1, t2), (2, t3), (3, t4), (4, t5)]) (v1 v2 v3 v4 v5 : Nat)
    (h1 : a.eval t1 = .slice (some ⟨v1, 0, none⟩) 2 2) (h2 : a.eval t2 = .slice (some ⟨v2, 0, none⟩) 2 2) (h3 : a.eval t3 = .slice (some ⟨v3, 0, none⟩) 2 2) (h4 : a.eval t4 = .slice (some ⟨v4, 0, none⟩) 2 2) (h5 : a.eval t5 = .slice (some ⟨v5, 0, none⟩) 2 2)
    (h : K (a.put o.dst (.slice (some ⟨w.heap.size, 0, none⟩) 5 5)) (w.alloc (.cells #[.slice (some ⟨v1, 0, none⟩) 2 2, .slice (some ⟨v2, 0, none⟩) 2 2, .slice (some ⟨v3, 0, none⟩) 2 2, .slice (some ⟨v4, 0, none⟩) 2 2, .slice (some ⟨v5, 0, none⟩) 2 2] 44))) : o.wp Tryd.prog a w K Q := by
  obtain ⟨isl, hisl, hzsl, hssl, _⟩ := info_parts info_slc
  have e : (#[((0 : Nat), t1), (1, t2), (2, t3), (3, t4), (4, t5)].map fun (i, x) => (i, a.eval x)) = #[(0, .slice (some ⟨v1, 0, none⟩) 2 2), (1, .slice (some ⟨v2, 0, none⟩) 2 2), (2, .slice (some ⟨v3, 0, none⟩) 2 2), (3, .slice (some ⟨v4, 0, none⟩) 2 2), (4, .slice (some ⟨v5, 0, none⟩) 2 2)] := by simp [h1, h2, h3, h4, h5]
  exact wp_buildSlice 61 44 5 _ ho _ isl _ Tryd.underlying61 hisl hzsl (by rw [hssl]; decide) (by rw [hssl]; decide) (by rw [hssl, e]; kernel_rfl) h
/-- The five pairs. -/
def bkA (s : St3) (k : Nat) (id : Int) (nm : ByteArray) (e : Int) : Nat → Chg
  | 0 => cRen id otherB
  | 1 => cSort id
  | 2 => cPart id 3
  | 3 => cCode id 4
  | _ => cDict
def bkB (s : St3) (k : Nat) (id : Int) (nm : ByteArray) (e : Int) : Nat → Chg
  | 0 => cRen id nm
  | 1 => cSort s.2.2.sb
  | 2 => cPart s.2.2.pb s.2.2.parts
  | 3 => cCode id e
  | _ => cDict
def opK : Nat → Nat
  | 8 => 0
  | 15 => 1
  | 24 => 2
  | 41 => 3
  | _ => 4
theorem bk_back {s : St3} {k : Nat} (h : MayQ s.1 s.2.1) (hl : LayQ (s.1.map (·.1)) s.1.length s.2.2) (hk : k < s.1.length) (hk2 : k < s.2.2.enc.length) (ho : otherB ∉ s.1.map (·.2.1)) {id : Int} {nm : ByteArray} {e : Int} (hid : s.1[k].1 = id) (hnm : s.1[k].2.1 = nm) (he : s.2.2.enc[k] = e) :
    ∀ i, i < 5 → Back s (bkA s k id nm e i) (bkB s k id nm e i) ∧ (bkA s k id nm e i).name.size ≤ 100000 ∧ (bkB s k id nm e i).name.size ≤ 100000 := by
  intro i hi
  subst hid hnm he
  have hn : s.1[k].2.1.size ≤ 100000 := h.small _ (List.getElem_mem hk)
  have h0 : (⟨#[]⟩ : ByteArray).size ≤ 100000 := by decide
  obtain rfl | rfl | rfl | rfl | rfl : i = 0 ∨ i = 1 ∨ i = 2 ∨ i = 3 ∨ i = 4 := by omega
  · exact ⟨back_name h hl hk ho, by show otherB.size ≤ 100000; decide, hn⟩
  · exact ⟨back_sort h hl hk, h0, h0⟩
  · exact ⟨back_part h hl hk, h0, h0⟩
  · exact ⟨back_code h hl hk hk2, h0, h0⟩
  · exact ⟨back_dict h hl, h0, h0⟩

set_option maxRecDepth 100000 in
set_option maxHeartbeats 4000000 in
theorem schemaBack_long (A : Option Addr) (n c : Nat) (v : Int) (w : World) (f : Int → Addr) (hs : S15 w f) (h3 : S3 w) (hn : 60 < n) :
    Calls Tryd.prog 5 #[.slice A n c, .int .u8 v] w fun e w' => e = .returned (.bool true) ∧ Later w w' := by
  have HB := Lib.hid (begun15_any w f hs h3)
  clear hs h3
  go_enter Tryd.func5, Tryd.ntmps5
  go_wp2_with fail
  refine HB.out.mono ?_
  rintro e w1 ⟨rfl, l1⟩
  have HL1 := Lib.hid l1
  clear l1 HB
  have hn0 : (60 : Int) < (n : Int) := by omega
  go_wp2_with fail
  go_ret
  exact ⟨rfl, HL1.out⟩

set_option maxRecDepth 100000 in
set_option maxHeartbeats 8000000 in
theorem schemaBack_walk (A : Option Addr) (n c : Nat) (bs : List Nat) (v : Nat) (w : World) (f : Int → Addr) (hs : S15 w f) (h3 : S3 w) (hb : bs.length = n) (hn : n ≤ 60) (hr : Has w A (ints .u8 bs)) (h256 : ∀ x ∈ bs, x < 256) (hv : v < 256) :
    Calls Tryd.prog 5 #[.slice A n c, .int .u8 v] w fun e w' => e = .returned (.bool true) ∧ Later w w' := by
  have HB := Lib.hid (begun15_any w f hs h3)
  have HS := Lib.hid hs
  have H3 := Lib.hid h3
  have HR := Lib.hid hr
  have hc : PkC n bs := ⟨by omega, hb, h256⟩
  have HCC := Lib.hid hc
  clear hr h256 hb hs h3 hc
  go_enter Tryd.func5, Tryd.ntmps5
  go_wp2_with fail
  refine HB.out.mono ?_
  rintro e w1 ⟨rfl, l1⟩
  have HL1 := Lib.hid l1
  have HR1 := Lib.hid (HR.out.later l1)
  obtain ⟨g, hg⟩ : ∃ g, w1.heap.size = g := ⟨_, rfl⟩
  clear l1 HB HR
  have hn60 : ((60 : Int) < (n : Int)) = False := by simp; omega
  go_wp2_with (go_at_call 11; refine (made_any A n c _).mono ?_; rintro e w2 ⟨rfl, hw2⟩)
  have l2 : Later w1 w2 := hw2 ▸ Later.new _ _
  have HPK2 := Lib.hid (show Pks w2 g A n c bs from ⟨⟨0, Nat.zero_le _, hw2 ▸ Blk.new _ _ _ g hg.symm⟩, by
    have h := HR1.out
    rcases h with h | ⟨b, off, hA, hb, hcc⟩
    · exact .inl h
    · exact .inr ⟨b, off, hA, by omega, fun k v hv => l2.cell (hcc k v hv)⟩⟩)
  have HL2 := Lib.hid l2
  have HG0 := Lib.hid hg
  clear l2 hw2 HR1 hg hn60
  refine (schema_any g A n c bs w2 HCC.out HPK2.out).mono ?_
  rintro e w3 ⟨t0, m, ts, V, vc, es, E, ec, d0, d1, d2, rfl, ⟨hm, htl, ht0, hts⟩, ⟨hes, het, hlay⟩, rs⟩
  have HL3 := Lib.hid (show Later w w3 from HL1.out.trans (rs.far.out HG0.out.symm HL2.out))
  obtain ⟨gv, rfl⟩ := own_some rs.oV (by omega)
  obtain ⟨ge, rfl⟩ := own_some rs.oE (by omega)
  have hcl : (playCols t0 m ts).length = m + 2 := by rw [playCols_len, htl]
  obtain ⟨hmay, hoth⟩ := play_may t0 m ts hm htl ht0 hts
  have hlq := play_lay t0 m ts hm htl d0 d1 d2 es hes het hlay
  have OV3 := Lib.hid (Has.ownG rs.oV)
  have OE3 := Lib.hid (Has.ownG rs.oE)
  clear rs HPK2 HCC HL2 HG0 hts het hlay ht0 htl
  generalize playCols t0 m ts = cols at hcl hmay hoth hlq OV3
  obtain ⟨vn, hvn⟩ : ∃ x, m + 2 = x := ⟨_, rfl⟩
  rw [hvn] at hcl hes hmay ⊢
  have hvb : 2 ≤ vn ∧ vn ≤ 4 := by omega
  clear hvn hm
  obtain ⟨sv, hsv⟩ : ∃ x : St3, (cols, (vn : Int), ⟨d0, d1, d2, es⟩) = x := ⟨_, rfl⟩
  obtain ⟨kx, hkx⟩ : ∃ x, v % vn = x := ⟨_, rfl⟩
  have hkv : kx < vn := hkx ▸ Nat.mod_lt _ (by omega)
  have hkc : kx < sv.1.length := by subst hsv; show kx < cols.length; omega
  have hke : kx < sv.2.2.enc.length := by subst hsv; show kx < es.length; omega
  obtain ⟨idv, hidv⟩ : ∃ x, sv.1[kx].1 = x := ⟨_, rfl⟩
  obtain ⟨nmv, hnmv⟩ : ∃ x, sv.1[kx].2.1 = x := ⟨_, rfl⟩
  obtain ⟨tyv, htyv⟩ : ∃ x, sv.1[kx].2.2 = x := ⟨_, rfl⟩
  obtain ⟨ev, hev⟩ : ∃ x, sv.2.2.enc[kx] = x := ⟨_, rfl⟩
  have HBK := Lib.hid (show ∀ i, i < 5 → Back sv (bkA sv kx idv nmv ev i) (bkB sv kx idv nmv ev i) ∧ (bkA sv kx idv nmv ev i).name.size ≤ 100000 ∧ (bkB sv kx idv nmv ev i).name.size ≤ 100000 from
    bk_back (by subst hsv; exact hmay) (by subst hsv; exact hlq) hkc hke (by subst hsv; exact hoth) hidv hnmv hev)
  have HSM := Lib.hid (show ∀ x ∈ sv.1, x.2.1.size ≤ 100000 from by subst hsv; exact hmay.small)
  have HLEN := Lib.hid (show sv.1.length ≤ 1000 ∧ sv.2.2.enc.length ≤ 1000 from by subst hsv; exact ⟨by show cols.length ≤ 1000; omega, by show es.length ≤ 1000; omega⟩)
  have HIDX := Lib.hid (show (IntKind.i64.wrap (v : Int)).tmod (sv.1.length : Int) = (kx : Int) from by
    subst hsv
    show (IntKind.i64.wrap (v : Int)).tmod (cols.length : Int) = (kx : Int)
    rw [hcl, ← hkx, IntWalk.i64_in _ ⟨by omega, by omega⟩]
    exact Int.ofNat_tmod v vn)
  have HVN0 := Lib.hid (show ¬ sv.1 = [] from by subst hsv; show ¬ cols = []; intro e; rw [e] at hcl; simp at hcl; omega)
  obtain ⟨gs, hgs⟩ : ∃ x, w3.heap.size = x := ⟨_, rfl⟩
  obtain ⟨w4, hw4⟩ : ∃ x : World, (w3.alloc (.cells #[.slice (some ⟨gv, 0, none⟩) vn vc, .int .i64 (vn : Int)] 24)).alloc (.cells #[.int .i64 d0, .int .i64 d1, .int .i64 d2, .slice (some ⟨ge, 0, none⟩) vn ec] 27) = x := ⟨_, rfl⟩
  have l4 : Later w3 w4 := hw4 ▸ (Later.new _ _).alloc _
  have HB4 := Lib.hid (show Blk w4 gs #[.slice (some ⟨gv, 0, none⟩) sv.1.length vc, .int .i64 sv.2.1] 24 from by
    subst hsv
    show Blk w4 gs #[.slice (some ⟨gv, 0, none⟩) cols.length vc, .int .i64 (vn : Int)] 24
    rw [hcl]
    exact hw4 ▸ (Blk.new w3 _ _ gs hgs.symm).later (Later.new _ _))
  have HM4 := Lib.hid (show Blk w4 (gs + 1) #[.int .i64 sv.2.2.sb, .int .i64 sv.2.2.pb, .int .i64 sv.2.2.parts, .slice (some ⟨ge, 0, none⟩) sv.2.2.enc.length ec] 27 from by
    subst hsv
    show Blk w4 (gs + 1) #[.int .i64 d0, .int .i64 d1, .int .i64 d2, .slice (some ⟨ge, 0, none⟩) es.length ec] 27
    rw [hes]
    exact hw4 ▸ Blk.new _ _ _ _ (by simp; omega))
  have HL4 := Lib.hid (HL3.out.trans l4)
  have OV4 := Lib.hid (show Has w4 (some ⟨gv, 0, none⟩) (fc sv.1) from by subst hsv; exact OV3.out.later l4)
  have OE4 := Lib.hid (show Has w4 (some ⟨ge, 0, none⟩) (ein sv.2.2.enc) from by subst hsv; exact OE3.out.later l4)
  have HW4 := Lib.hid hw4
  clear hw4 l4 OV3 OE3 HL3 hmay hlq hoth hkx hkv hvb hcl hes
  have HKC := Lib.hid hkc
  have HKE := Lib.hid hke
  obtain ⟨bq, oq, eq, q0, q1, q2⟩ := OV4.out.col3 kx hkc
  injection eq with eq
  injection eq with x1 x2
  subst x1 x2
  rw [hidv, Nat.zero_add] at q0
  rw [hnmv, Nat.zero_add] at q1
  rw [htyv, Nat.zero_add] at q2
  obtain ⟨be, oe, ee, r0⟩ := OE4.out.ein kx hke
  injection ee with ee
  injection ee with x1 x2
  subst x1 x2
  rw [hev, Nat.zero_add] at r0
  have HQ0 := Lib.hid (show CellIs w4 ⟨gv, kx * 3, none⟩ (.int .i64 idv) from q0)
  have HQ1 := Lib.hid (show CellIs w4 ⟨gv, kx * 3 + 1, none⟩ (.string nmv) from q1)
  have HQ2 := Lib.hid (show CellIs w4 ⟨gv, kx * 3 + 2, none⟩ (.int .i64 tyv) from q2)
  have HR0 := Lib.hid (show CellIs w4 ⟨ge, kx, none⟩ (.int .i64 ev) from r0)
  clear hidv hnmv htyv hev hsv r0 q0 q1 q2 hkc hke
  go_upto_region 6 with fail
  rw [HW4.out]
  clear HW4 hgs
  go_cut [7] from 27 to 36 (fun pv wx => ∃ g7, pv = .pointer (some ⟨g7, 0, none⟩) ∧ Blk wx g7 #[.int .i64 idv, .string nmv, .int .i64 tyv] 59 ∧ Later w4 wx)
  case first => as_aux_lemma =>
    refine wp_region_K (S := (fun W : World => Later w4 W)) (R := Later) Later.refl (by kernel_rfl) ?_
    obtain ⟨y0, hy0⟩ : ∃ x, w4.drew = x := ⟨_, rfl⟩
    have hS : (fun W : World => Later w4 W) y0 := hy0 ▸ (Later.refl w4).drew
    rw [hy0]
    clear hy0
    refine wpAnyK_take Later.refl (fun _ _ _ h k => h.trans k) (fun _ _ h k => h.trans k) (i := 0) (oi := { dst := some 27, op := _, type := _, pos := _, after := _, guard := _ }) (v := ?_) rfl (by kernel_rfl) (by kernel_rfl) (by kernel_rfl) (fun _ _ _ h => h) (Or.inl (Or.inl ⟨by rfl, ?_⟩)) hS ?_
    rotate_left
    focus ((intro w hSw; (try dsimp only at hSw); go_simp); (try with_reducible rfl))
    intro wq hwq
    replace hS := hS.trans hwq
    (try simp only [Act.put, List.setIfInBounds_toArray, List.set_cons_zero, List.set_cons_succ])
    clear hwq
    refine wpAnyK_take Later.refl (fun _ _ _ h k => h.trans k) (fun _ _ h k => h.trans k) (i := 1) (oi := { dst := some 28, op := _, type := _, pos := _, after := _, guard := _ }) (v := ?_) rfl (by kernel_rfl) (by kernel_rfl) (by kernel_rfl) (fun _ _ _ h => h) (Or.inl (Or.inl ⟨by rfl, ?_⟩)) hS ?_
    rotate_left
    focus ((intro w hSw; (try dsimp only at hSw); have s0 := (HB4.out.later hSw).cell 0 _ rfl; go_simp); (try with_reducible rfl))
    intro wq hwq
    replace hS := hS.trans hwq
    (try simp only [Act.put, List.setIfInBounds_toArray, List.set_cons_zero, List.set_cons_succ])
    clear hwq
    refine wpAnyK_take Later.refl (fun _ _ _ h k => h.trans k) (fun _ _ h k => h.trans k) (i := 2) (oi := { dst := some 29, op := _, type := _, pos := _, after := _, guard := _ }) (v := ?_) rfl (by kernel_rfl) (by kernel_rfl) (by kernel_rfl) (fun _ _ _ h => h) (Or.inl (Or.inl ⟨by rfl, ?_⟩)) hS ?_
    rotate_left
    focus ((intro w hSw; (try dsimp only at hSw); go_simp); (try with_reducible rfl))
    intro wq hwq
    replace hS := hS.trans hwq
    (try simp only [Act.put, List.setIfInBounds_toArray, List.set_cons_zero, List.set_cons_succ])
    clear hwq
    refine wpAnyK_take Later.refl (fun _ _ _ h k => h.trans k) (fun _ _ h k => h.trans k) (i := 3) (oi := { dst := some 30, op := _, type := _, pos := _, after := _, guard := _ }) (v := ?_) rfl (by kernel_rfl) (by kernel_rfl) (by kernel_rfl) (fun _ _ _ h => h) (Or.inl (Or.inl ⟨by rfl, ?_⟩)) hS ?_
    rotate_left
    focus ((intro w hSw; (try dsimp only at hSw); go_simp); (try with_reducible rfl))
    intro wq hwq
    replace hS := hS.trans hwq
    (try simp only [Act.put, List.setIfInBounds_toArray, List.set_cons_zero, List.set_cons_succ])
    clear hwq
    refine wpAnyK_take Later.refl (fun _ _ _ h k => h.trans k) (fun _ _ h k => h.trans k) (i := 4) (oi := { dst := some 31, op := _, type := _, pos := _, after := _, guard := _ }) (v := ?_) rfl (by kernel_rfl) (by kernel_rfl) (by kernel_rfl) (fun _ _ _ h => h) (Or.inl (Or.inl ⟨by rfl, ?_⟩)) hS ?_
    rotate_left
    focus ((intro w hSw; (try dsimp only at hSw); go_simp); (try with_reducible rfl))
    intro wq hwq
    replace hS := hS.trans hwq
    (try simp only [Act.put, List.setIfInBounds_toArray, List.set_cons_zero, List.set_cons_succ])
    clear hwq
    refine wpAnyK_take Later.refl (fun _ _ _ h k => h.trans k) (fun _ _ h k => h.trans k) (i := 5) (oi := { dst := some 32, op := _, type := _, pos := _, after := _, guard := _ }) (v := ?_) rfl (by kernel_rfl) (by kernel_rfl) (by kernel_rfl) (fun _ _ _ h => h) (Or.inl (Or.inl ⟨by rfl, ?_⟩)) hS ?_
    rotate_left
    focus ((intro w hSw; (try dsimp only at hSw); have s0 := (HB4.out.later hSw).cell 0 _ rfl; go_simp); (try with_reducible rfl))
    intro wq hwq
    replace hS := hS.trans hwq
    (try simp only [Act.put, List.setIfInBounds_toArray, List.set_cons_zero, List.set_cons_succ])
    clear hwq
    refine wpAnyK_take Later.refl (fun _ _ _ h k => h.trans k) (fun _ _ h k => h.trans k) (i := 6) (oi := { dst := some 33, op := _, type := _, pos := _, after := _, guard := _ }) (v := ?_) rfl (by kernel_rfl) (by kernel_rfl) (by kernel_rfl) (fun _ _ _ h => h) (Or.inl (Or.inl ⟨by rfl, ?_⟩)) hS ?_
    rotate_left
    focus ((intro w hSw; (try dsimp only at hSw); go_simp); (try with_reducible rfl))
    intro wq hwq
    replace hS := hS.trans hwq
    (try simp only [Act.put, List.setIfInBounds_toArray, List.set_cons_zero, List.set_cons_succ])
    clear hwq
    refine wpAnyK_take Later.refl (fun _ _ _ h k => h.trans k) (fun _ _ h k => h.trans k) (i := 7) (oi := { dst := some 34, op := _, type := _, pos := _, after := _, guard := _ }) (v := ?_) rfl (by kernel_rfl) (by kernel_rfl) (by kernel_rfl) (fun _ _ _ h => h) (Or.inl (Or.inl ⟨by rfl, ?_⟩)) hS ?_
    rotate_left
    focus ((intro w hSw; (try dsimp only at hSw); have hidx := HIDX.out; have hvn0 := HVN0.out; go_simp); (try with_reducible rfl))
    intro wq hwq
    replace hS := hS.trans hwq
    (try simp only [Act.put, List.setIfInBounds_toArray, List.set_cons_zero, List.set_cons_succ])
    clear hwq
    refine wpAnyK_take Later.refl (fun _ _ _ h k => h.trans k) (fun _ _ h k => h.trans k) (i := 8) (oi := { dst := some 35, op := _, type := _, pos := _, after := _, guard := _ }) (v := ?_) rfl (by kernel_rfl) (by kernel_rfl) (by kernel_rfl) (fun _ _ _ h => h) (Or.inl (Or.inl ⟨by rfl, ?_⟩)) hS ?_
    rotate_left
    focus ((intro w hSw; (try dsimp only at hSw); have hkc := HKC.out; go_simp); (try with_reducible rfl))
    intro wq hwq
    replace hS := hS.trans hwq
    (try simp only [Act.put, List.setIfInBounds_toArray, List.set_cons_zero, List.set_cons_succ])
    clear hwq
    refine wpAnyK_take Later.refl (fun _ _ _ h k => h.trans k) (fun _ _ h k => h.trans k) (i := 9) (oi := { dst := some 36, op := _, type := _, pos := _, after := _, guard := _ }) (v := ?_) rfl (by kernel_rfl) (by kernel_rfl) (by kernel_rfl) (fun _ _ _ h => h) (Or.inl (Or.inl ⟨by rfl, ?_⟩)) hS ?_
    rotate_left
    focus ((intro w hSw; (try dsimp only at hSw); have q0 := (HQ0.out.later hSw).out; have q1 := (HQ1.out.later hSw).out; have q2 := (HQ2.out.later hSw).out; go_simp); (try with_reducible rfl))
    intro wq hwq
    replace hS := hS.trans hwq
    (try simp only [Act.put, List.setIfInBounds_toArray, List.set_cons_zero, List.set_cons_succ])
    clear hwq
    refine wpAnyK_all (rs := [10]) (by kernel_rfl) (by simp) (fun i hi => ?_)
    simp only [List.mem_cons, List.not_mem_nil, or_false] at hi
    subst hi
    refine stepK (o := { dst := some 7, op := _, type := _, pos := _, after := _, guard := _ }) rfl (fun K hK => ?_)
    go_simp
    obtain ⟨ga, hgg⟩ : ∃ x, wq.heap.size = x := ⟨_, rfl⟩
    obtain ⟨y1, hyy⟩ : ∃ x, wq.alloc (.cells #[.int .i64 0, .string ⟨#[]⟩, .int .i64 0] 59) = x := ⟨_, rfl⟩
    have lc : Later wq y1 := hyy ▸ Later.new _ _
    have hA : Blk y1 ga #[.int .i64 0, .string ⟨#[]⟩, .int .i64 0] 59 := hyy ▸ Blk.new _ _ _ _ hgg.symm
    have hGA : w4.heap.size ≤ ga := hgg ▸ Later.size hS
    replace hS : (fun W : World => Later w4 W) y1 := Later.trans hS lc
    try rw [hgg]
    rw [hyy]
    refine hK _ _ hS fun wr hwr => ?_
    replace hA := hA.later hwr
    replace hS := hS.trans hwr
    clear hK lc hyy hgg hwr
    (try simp only [Act.put])
    refine wpAnyK_all (rs := [11]) (by kernel_rfl) (by simp) (fun i hi => ?_)
    simp only [List.mem_cons, List.not_mem_nil, or_false] at hi
    subst hi
    refine stepK (o := { dst := none, op := _, type := _, pos := _, after := _, guard := _ }) rfl (fun K hK => ?_)
    rw [if_pos (by rfl)]
    refine wp_store_mid 59 _ _ rfl ga 0 #[.int .i64 idv, .string nmv, .int .i64 tyv] rfl rfl (fun j hj => by rw [Nat.zero_add]; have hj2 : j < 3 := hj; exact ⟨by rw [cell_of_row wr ga j _ _ _ hA, Array.getElem?_eq_getElem (by exact hj2)]; rfl, hA.frozen j⟩) (by kernel_rfl) (by simp [Value.oneCell']) ?_
    have hA2 := Blk.fill [.int .i64 0, .string ⟨#[]⟩, .int .i64 0] [.int .i64 idv, .string nmv, .int .i64 tyv] hA rfl
    have hS2 : (fun W : World => Later w4 W) (wr.setCells ga 0 [.int .i64 idv, .string nmv, .int .i64 tyv]) := Later.fill hS hGA 0 _
    refine hK _ _ hS2 fun wz hwz => ?_
    replace hA2 := hA2.later hwz
    replace hS2 := hS2.trans hwz
    clear hK hwz
    (try simp only [Act.put])
    refine wpAnyK_done (by kernel_rfl) ?_ _
    go_wp2_with fail
    go_meet
    exact ⟨ga, rfl, hA2, hS2⟩
  case rest =>
  obtain ⟨g7, rfl, hbc, lc⟩ := hcut
  have HBC := Lib.hid hbc
  have HBS := Lib.hid (HB4.out.later lc)
  have HBL := Lib.hid (HM4.out.later lc)
  have HCE := Lib.hid ((HR0.out : CellIs w4 ⟨ge, kx, none⟩ (.int .i64 ev)).later lc)
  have OV5 := Lib.hid (OV4.out.later lc)
  have OE5 := Lib.hid (OE4.out.later lc)
  have HL5 := Lib.hid (HL4.out.trans lc)
  clear hbc lc HB4 HM4 HR0 OV4 OE4 HL4 HQ0 HQ1 HQ2
  go_upto_region 7 with fail
  go_cut [8] from 37 to 82 (fun pv wx => ∃ go, pv = .slice (some ⟨go, 0, none⟩) 5 5 ∧ (∀ k, k < 5 → ∃ b, CellIs wx ⟨go, k, none⟩ (.slice (some ⟨b, 0, none⟩) 2 2) ∧ Blk wx b (chs (bkA sv kx idv nmv ev k) (bkB sv kx idv nmv ev k)).toArray 31) ∧ Later wc wx)
  case first => as_aux_lemma =>
    refine wp_region_K (S := (fun W : World => Later wc W)) (R := Later) Later.refl (by kernel_rfl) ?_
    obtain ⟨y0, hy0⟩ : ∃ x, wc.drew = x := ⟨_, rfl⟩
    have hS : (fun W : World => Later wc W) y0 := hy0 ▸ (Later.refl wc).drew
    rw [hy0]
    clear hy0
    refine wpAnyK_take Later.refl (fun _ _ _ h k => h.trans k) (fun _ _ h k => h.trans k) (i := 0) (oi := { dst := some 37, op := _, type := _, pos := _, after := _, guard := _ }) (v := ?_) rfl (by kernel_rfl) (by kernel_rfl) (by kernel_rfl) (fun _ _ _ h => h) (Or.inl (Or.inl ⟨by rfl, ?_⟩)) hS ?_
    rotate_left
    focus ((intro w hSw; (try dsimp only at hSw); go_simp); (try with_reducible rfl))
    intro wq hwq
    replace hS := hS.trans hwq
    (try simp only [Act.put, List.setIfInBounds_toArray, List.set_cons_zero, List.set_cons_succ])
    clear hwq
    refine wpAnyK_take Later.refl (fun _ _ _ h k => h.trans k) (fun _ _ h k => h.trans k) (i := 1) (oi := { dst := some 38, op := _, type := _, pos := _, after := _, guard := _ }) (v := ?_) rfl (by kernel_rfl) (by kernel_rfl) (by kernel_rfl) (fun _ _ _ h => h) (Or.inl (Or.inl ⟨by rfl, ?_⟩)) hS ?_
    rotate_left
    focus ((intro w hSw; (try dsimp only at hSw); have c0 := (HBC.out.later hSw).cell 0 _ rfl; have c1 := (HBC.out.later hSw).cell 1 _ rfl; go_simp); (try with_reducible rfl))
    intro wq hwq
    replace hS := hS.trans hwq
    (try simp only [Act.put, List.setIfInBounds_toArray, List.set_cons_zero, List.set_cons_succ])
    clear hwq
    refine wpAnyK_take Later.refl (fun _ _ _ h k => h.trans k) (fun _ _ h k => h.trans k) (i := 2) (oi := { dst := some 39, op := _, type := _, pos := _, after := _, guard := _ }) (v := ?_) rfl (by kernel_rfl) (by kernel_rfl) (by kernel_rfl) (fun _ _ _ h => h) (Or.inl (Or.inl ⟨by rfl, ?_⟩)) hS ?_
    rotate_left
    focus ((intro w hSw; (try dsimp only at hSw); go_simp); (try with_reducible rfl))
    intro wq hwq
    replace hS := hS.trans hwq
    (try simp only [Act.put, List.setIfInBounds_toArray, List.set_cons_zero, List.set_cons_succ])
    clear hwq
    refine wpAnyK_take Later.refl (fun _ _ _ h k => h.trans k) (fun _ _ h k => h.trans k) (i := 3) (oi := { dst := some 40, op := _, type := _, pos := _, after := _, guard := _ }) (v := ?_) rfl (by kernel_rfl) (by kernel_rfl) (by kernel_rfl) (fun _ _ _ h => h) (Or.inl (Or.inl ⟨by rfl, ?_⟩)) hS ?_
    rotate_left
    focus ((intro w hSw; (try dsimp only at hSw); go_simp); (try with_reducible rfl))
    intro wq hwq
    replace hS := hS.trans hwq
    (try simp only [Act.put, List.setIfInBounds_toArray, List.set_cons_zero, List.set_cons_succ])
    clear hwq
    refine wpAnyK_take Later.refl (fun _ _ _ h k => h.trans k) (fun _ _ h k => h.trans k) (i := 4) (oi := { dst := some 41, op := _, type := _, pos := _, after := _, guard := _ }) (v := ?_) rfl (by kernel_rfl) (by kernel_rfl) (by kernel_rfl) (fun _ _ _ h => h) (Or.inl (Or.inl ⟨by rfl, ?_⟩)) hS ?_
    rotate_left
    focus ((intro w hSw; (try dsimp only at hSw); have c0 := (HBC.out.later hSw).cell 0 _ rfl; have c1 := (HBC.out.later hSw).cell 1 _ rfl; go_simp); (try with_reducible rfl))
    intro wq hwq
    replace hS := hS.trans hwq
    (try simp only [Act.put, List.setIfInBounds_toArray, List.set_cons_zero, List.set_cons_succ])
    clear hwq
    refine wpAnyK_take Later.refl (fun _ _ _ h k => h.trans k) (fun _ _ h k => h.trans k) (i := 5) (oi := { dst := some 42, op := _, type := _, pos := _, after := _, guard := _ }) (v := ?_) rfl (by kernel_rfl) (by kernel_rfl) (by kernel_rfl) (fun _ _ _ h => h) (Or.inl (Or.inl ⟨by rfl, ?_⟩)) hS ?_
    rotate_left
    focus ((intro w hSw; (try dsimp only at hSw); go_simp); (try with_reducible rfl))
    intro wq hwq
    replace hS := hS.trans hwq
    (try simp only [Act.put, List.setIfInBounds_toArray, List.set_cons_zero, List.set_cons_succ])
    clear hwq
    refine wpAnyK_take Later.refl (fun _ _ _ h k => h.trans k) (fun _ _ h k => h.trans k) (i := 6) (oi := { dst := some 43, op := _, type := _, pos := _, after := _, guard := _ }) (v := ?_) rfl (by kernel_rfl) (by kernel_rfl) (by kernel_rfl) (fun _ _ _ h => h) (Or.inl (Or.inl ⟨by rfl, ?_⟩)) hS ?_
    rotate_left
    focus ((intro w hSw; (try dsimp only at hSw); have c0 := (HBC.out.later hSw).cell 0 _ rfl; have c1 := (HBC.out.later hSw).cell 1 _ rfl; go_simp); (try with_reducible rfl))
    intro wq hwq
    replace hS := hS.trans hwq
    (try simp only [Act.put, List.setIfInBounds_toArray, List.set_cons_zero, List.set_cons_succ])
    clear hwq
    refine wpAnyK_take Later.refl (fun _ _ _ h k => h.trans k) (fun _ _ h k => h.trans k) (i := 7) (oi := { dst := some 44, op := _, type := _, pos := _, after := _, guard := _ }) (v := ?_) rfl (by kernel_rfl) (by kernel_rfl) (by kernel_rfl) (fun _ _ _ h => h) (Or.inl (Or.inl ⟨by rfl, ?_⟩)) hS ?_
    rotate_left
    focus ((intro w hSw; (try dsimp only at hSw); go_simp); (try with_reducible rfl))
    intro wq hwq
    replace hS := hS.trans hwq
    (try simp only [Act.put, List.setIfInBounds_toArray, List.set_cons_zero, List.set_cons_succ])
    clear hwq
    refine wpAnyK_take Later.refl (fun _ _ _ h k => h.trans k) (fun _ _ h k => h.trans k) (i := 9) (oi := { dst := some 46, op := _, type := _, pos := _, after := _, guard := _ }) (v := ?_) rfl (by kernel_rfl) (by kernel_rfl) (by kernel_rfl) (fun _ _ _ h => h) (Or.inl (Or.inl ⟨by rfl, ?_⟩)) hS ?_
    rotate_left
    focus ((intro w hSw; (try dsimp only at hSw); go_simp); (try with_reducible rfl))
    intro wq hwq
    replace hS := hS.trans hwq
    (try simp only [Act.put, List.setIfInBounds_toArray, List.set_cons_zero, List.set_cons_succ])
    clear hwq
    refine wpAnyK_take Later.refl (fun _ _ _ h k => h.trans k) (fun _ _ h k => h.trans k) (i := 10) (oi := { dst := some 47, op := _, type := _, pos := _, after := _, guard := _ }) (v := ?_) rfl (by kernel_rfl) (by kernel_rfl) (by kernel_rfl) (fun _ _ _ h => h) (Or.inl (Or.inl ⟨by rfl, ?_⟩)) hS ?_
    rotate_left
    focus ((intro w hSw; (try dsimp only at hSw); have c0 := (HBC.out.later hSw).cell 0 _ rfl; have c1 := (HBC.out.later hSw).cell 1 _ rfl; go_simp); (try with_reducible rfl))
    intro wq hwq
    replace hS := hS.trans hwq
    (try simp only [Act.put, List.setIfInBounds_toArray, List.set_cons_zero, List.set_cons_succ])
    clear hwq
    refine wpAnyK_take Later.refl (fun _ _ _ h k => h.trans k) (fun _ _ h k => h.trans k) (i := 11) (oi := { dst := some 48, op := _, type := _, pos := _, after := _, guard := _ }) (v := ?_) rfl (by kernel_rfl) (by kernel_rfl) (by kernel_rfl) (fun _ _ _ h => h) (Or.inl (Or.inl ⟨by rfl, ?_⟩)) hS ?_
    rotate_left
    focus ((intro w hSw; (try dsimp only at hSw); go_simp); (try with_reducible rfl))
    intro wq hwq
    replace hS := hS.trans hwq
    (try simp only [Act.put, List.setIfInBounds_toArray, List.set_cons_zero, List.set_cons_succ])
    clear hwq
    refine wpAnyK_take Later.refl (fun _ _ _ h k => h.trans k) (fun _ _ h k => h.trans k) (i := 12) (oi := { dst := some 49, op := _, type := _, pos := _, after := _, guard := _ }) (v := ?_) rfl (by kernel_rfl) (by kernel_rfl) (by kernel_rfl) (fun _ _ _ h => h) (Or.inl (Or.inl ⟨by rfl, ?_⟩)) hS ?_
    rotate_left
    focus ((intro w hSw; (try dsimp only at hSw); go_simp); (try with_reducible rfl))
    intro wq hwq
    replace hS := hS.trans hwq
    (try simp only [Act.put, List.setIfInBounds_toArray, List.set_cons_zero, List.set_cons_succ])
    clear hwq
    refine wpAnyK_take Later.refl (fun _ _ _ h k => h.trans k) (fun _ _ h k => h.trans k) (i := 13) (oi := { dst := some 50, op := _, type := _, pos := _, after := _, guard := _ }) (v := ?_) rfl (by kernel_rfl) (by kernel_rfl) (by kernel_rfl) (fun _ _ _ h => h) (Or.inl (Or.inl ⟨by rfl, ?_⟩)) hS ?_
    rotate_left
    focus ((intro w hSw; (try dsimp only at hSw); have c0 := (HBL.out.later hSw).cell 0 _ rfl; have c1 := (HBL.out.later hSw).cell 1 _ rfl; have c2 := (HBL.out.later hSw).cell 2 _ rfl; have c3 := (HBL.out.later hSw).cell 3 _ rfl; go_simp); (try with_reducible rfl))
    intro wq hwq
    replace hS := hS.trans hwq
    (try simp only [Act.put, List.setIfInBounds_toArray, List.set_cons_zero, List.set_cons_succ])
    clear hwq
    refine wpAnyK_take Later.refl (fun _ _ _ h k => h.trans k) (fun _ _ h k => h.trans k) (i := 14) (oi := { dst := some 51, op := _, type := _, pos := _, after := _, guard := _ }) (v := ?_) rfl (by kernel_rfl) (by kernel_rfl) (by kernel_rfl) (fun _ _ _ h => h) (Or.inl (Or.inl ⟨by rfl, ?_⟩)) hS ?_
    rotate_left
    focus ((intro w hSw; (try dsimp only at hSw); go_simp); (try with_reducible rfl))
    intro wq hwq
    replace hS := hS.trans hwq
    (try simp only [Act.put, List.setIfInBounds_toArray, List.set_cons_zero, List.set_cons_succ])
    clear hwq
    refine wpAnyK_take Later.refl (fun _ _ _ h k => h.trans k) (fun _ _ h k => h.trans k) (i := 16) (oi := { dst := some 53, op := _, type := _, pos := _, after := _, guard := _ }) (v := ?_) rfl (by kernel_rfl) (by kernel_rfl) (by kernel_rfl) (fun _ _ _ h => h) (Or.inl (Or.inl ⟨by rfl, ?_⟩)) hS ?_
    rotate_left
    focus ((intro w hSw; (try dsimp only at hSw); go_simp); (try with_reducible rfl))
    intro wq hwq
    replace hS := hS.trans hwq
    (try simp only [Act.put, List.setIfInBounds_toArray, List.set_cons_zero, List.set_cons_succ])
    clear hwq
    refine wpAnyK_take Later.refl (fun _ _ _ h k => h.trans k) (fun _ _ h k => h.trans k) (i := 17) (oi := { dst := some 54, op := _, type := _, pos := _, after := _, guard := _ }) (v := ?_) rfl (by kernel_rfl) (by kernel_rfl) (by kernel_rfl) (fun _ _ _ h => h) (Or.inl (Or.inl ⟨by rfl, ?_⟩)) hS ?_
    rotate_left
    focus ((intro w hSw; (try dsimp only at hSw); have c0 := (HBC.out.later hSw).cell 0 _ rfl; have c1 := (HBC.out.later hSw).cell 1 _ rfl; go_simp); (try with_reducible rfl))
    intro wq hwq
    replace hS := hS.trans hwq
    (try simp only [Act.put, List.setIfInBounds_toArray, List.set_cons_zero, List.set_cons_succ])
    clear hwq
    refine wpAnyK_take Later.refl (fun _ _ _ h k => h.trans k) (fun _ _ h k => h.trans k) (i := 18) (oi := { dst := some 55, op := _, type := _, pos := _, after := _, guard := _ }) (v := ?_) rfl (by kernel_rfl) (by kernel_rfl) (by kernel_rfl) (fun _ _ _ h => h) (Or.inl (Or.inl ⟨by rfl, ?_⟩)) hS ?_
    rotate_left
    focus ((intro w hSw; (try dsimp only at hSw); go_simp); (try with_reducible rfl))
    intro wq hwq
    replace hS := hS.trans hwq
    (try simp only [Act.put, List.setIfInBounds_toArray, List.set_cons_zero, List.set_cons_succ])
    clear hwq
    refine wpAnyK_take Later.refl (fun _ _ _ h k => h.trans k) (fun _ _ h k => h.trans k) (i := 19) (oi := { dst := some 56, op := _, type := _, pos := _, after := _, guard := _ }) (v := ?_) rfl (by kernel_rfl) (by kernel_rfl) (by kernel_rfl) (fun _ _ _ h => h) (Or.inl (Or.inl ⟨by rfl, ?_⟩)) hS ?_
    rotate_left
    focus ((intro w hSw; (try dsimp only at hSw); go_simp); (try with_reducible rfl))
    intro wq hwq
    replace hS := hS.trans hwq
    (try simp only [Act.put, List.setIfInBounds_toArray, List.set_cons_zero, List.set_cons_succ])
    clear hwq
    refine wpAnyK_take Later.refl (fun _ _ _ h k => h.trans k) (fun _ _ h k => h.trans k) (i := 20) (oi := { dst := some 57, op := _, type := _, pos := _, after := _, guard := _ }) (v := ?_) rfl (by kernel_rfl) (by kernel_rfl) (by kernel_rfl) (fun _ _ _ h => h) (Or.inl (Or.inl ⟨by rfl, ?_⟩)) hS ?_
    rotate_left
    focus ((intro w hSw; (try dsimp only at hSw); have c0 := (HBL.out.later hSw).cell 0 _ rfl; have c1 := (HBL.out.later hSw).cell 1 _ rfl; have c2 := (HBL.out.later hSw).cell 2 _ rfl; have c3 := (HBL.out.later hSw).cell 3 _ rfl; go_simp); (try with_reducible rfl))
    intro wq hwq
    replace hS := hS.trans hwq
    (try simp only [Act.put, List.setIfInBounds_toArray, List.set_cons_zero, List.set_cons_succ])
    clear hwq
    refine wpAnyK_take Later.refl (fun _ _ _ h k => h.trans k) (fun _ _ h k => h.trans k) (i := 21) (oi := { dst := some 58, op := _, type := _, pos := _, after := _, guard := _ }) (v := ?_) rfl (by kernel_rfl) (by kernel_rfl) (by kernel_rfl) (fun _ _ _ h => h) (Or.inl (Or.inl ⟨by rfl, ?_⟩)) hS ?_
    rotate_left
    focus ((intro w hSw; (try dsimp only at hSw); go_simp); (try with_reducible rfl))
    intro wq hwq
    replace hS := hS.trans hwq
    (try simp only [Act.put, List.setIfInBounds_toArray, List.set_cons_zero, List.set_cons_succ])
    clear hwq
    refine wpAnyK_take Later.refl (fun _ _ _ h k => h.trans k) (fun _ _ h k => h.trans k) (i := 22) (oi := { dst := some 59, op := _, type := _, pos := _, after := _, guard := _ }) (v := ?_) rfl (by kernel_rfl) (by kernel_rfl) (by kernel_rfl) (fun _ _ _ h => h) (Or.inl (Or.inl ⟨by rfl, ?_⟩)) hS ?_
    rotate_left
    focus ((intro w hSw; (try dsimp only at hSw); have c0 := (HBL.out.later hSw).cell 0 _ rfl; have c1 := (HBL.out.later hSw).cell 1 _ rfl; have c2 := (HBL.out.later hSw).cell 2 _ rfl; have c3 := (HBL.out.later hSw).cell 3 _ rfl; go_simp); (try with_reducible rfl))
    intro wq hwq
    replace hS := hS.trans hwq
    (try simp only [Act.put, List.setIfInBounds_toArray, List.set_cons_zero, List.set_cons_succ])
    clear hwq
    refine wpAnyK_take Later.refl (fun _ _ _ h k => h.trans k) (fun _ _ h k => h.trans k) (i := 23) (oi := { dst := some 60, op := _, type := _, pos := _, after := _, guard := _ }) (v := ?_) rfl (by kernel_rfl) (by kernel_rfl) (by kernel_rfl) (fun _ _ _ h => h) (Or.inl (Or.inl ⟨by rfl, ?_⟩)) hS ?_
    rotate_left
    focus ((intro w hSw; (try dsimp only at hSw); go_simp); (try with_reducible rfl))
    intro wq hwq
    replace hS := hS.trans hwq
    (try simp only [Act.put, List.setIfInBounds_toArray, List.set_cons_zero, List.set_cons_succ])
    clear hwq
    refine wpAnyK_take Later.refl (fun _ _ _ h k => h.trans k) (fun _ _ h k => h.trans k) (i := 25) (oi := { dst := some 62, op := _, type := _, pos := _, after := _, guard := _ }) (v := ?_) rfl (by kernel_rfl) (by kernel_rfl) (by kernel_rfl) (fun _ _ _ h => h) (Or.inl (Or.inl ⟨by rfl, ?_⟩)) hS ?_
    rotate_left
    focus ((intro w hSw; (try dsimp only at hSw); go_simp); (try with_reducible rfl))
    intro wq hwq
    replace hS := hS.trans hwq
    (try simp only [Act.put, List.setIfInBounds_toArray, List.set_cons_zero, List.set_cons_succ])
    clear hwq
    refine wpAnyK_take Later.refl (fun _ _ _ h k => h.trans k) (fun _ _ h k => h.trans k) (i := 26) (oi := { dst := some 63, op := _, type := _, pos := _, after := _, guard := _ }) (v := ?_) rfl (by kernel_rfl) (by kernel_rfl) (by kernel_rfl) (fun _ _ _ h => h) (Or.inl (Or.inl ⟨by rfl, ?_⟩)) hS ?_
    rotate_left
    focus ((intro w hSw; (try dsimp only at hSw); have c0 := (HBC.out.later hSw).cell 0 _ rfl; have c1 := (HBC.out.later hSw).cell 1 _ rfl; go_simp); (try with_reducible rfl))
    intro wq hwq
    replace hS := hS.trans hwq
    (try simp only [Act.put, List.setIfInBounds_toArray, List.set_cons_zero, List.set_cons_succ])
    clear hwq
    refine wpAnyK_take Later.refl (fun _ _ _ h k => h.trans k) (fun _ _ h k => h.trans k) (i := 27) (oi := { dst := some 64, op := _, type := _, pos := _, after := _, guard := _ }) (v := ?_) rfl (by kernel_rfl) (by kernel_rfl) (by kernel_rfl) (fun _ _ _ h => h) (Or.inl (Or.inl ⟨by rfl, ?_⟩)) hS ?_
    rotate_left
    focus ((intro w hSw; (try dsimp only at hSw); go_simp); (try with_reducible rfl))
    intro wq hwq
    replace hS := hS.trans hwq
    (try simp only [Act.put, List.setIfInBounds_toArray, List.set_cons_zero, List.set_cons_succ])
    clear hwq
    refine wpAnyK_take Later.refl (fun _ _ _ h k => h.trans k) (fun _ _ h k => h.trans k) (i := 28) (oi := { dst := some 65, op := _, type := _, pos := _, after := _, guard := _ }) (v := ?_) rfl (by kernel_rfl) (by kernel_rfl) (by kernel_rfl) (fun _ _ _ h => h) (Or.inl (Or.inl ⟨by rfl, ?_⟩)) hS ?_
    rotate_left
    focus ((intro w hSw; (try dsimp only at hSw); go_simp); (try with_reducible rfl))
    intro wq hwq
    replace hS := hS.trans hwq
    (try simp only [Act.put, List.setIfInBounds_toArray, List.set_cons_zero, List.set_cons_succ])
    clear hwq
    refine wpAnyK_take Later.refl (fun _ _ _ h k => h.trans k) (fun _ _ h k => h.trans k) (i := 29) (oi := { dst := some 66, op := _, type := _, pos := _, after := _, guard := _ }) (v := ?_) rfl (by kernel_rfl) (by kernel_rfl) (by kernel_rfl) (fun _ _ _ h => h) (Or.inl (Or.inl ⟨by rfl, ?_⟩)) hS ?_
    rotate_left
    focus ((intro w hSw; (try dsimp only at hSw); have c0 := (HBC.out.later hSw).cell 0 _ rfl; have c1 := (HBC.out.later hSw).cell 1 _ rfl; go_simp); (try with_reducible rfl))
    intro wq hwq
    replace hS := hS.trans hwq
    (try simp only [Act.put, List.setIfInBounds_toArray, List.set_cons_zero, List.set_cons_succ])
    clear hwq
    refine wpAnyK_take Later.refl (fun _ _ _ h k => h.trans k) (fun _ _ h k => h.trans k) (i := 30) (oi := { dst := some 67, op := _, type := _, pos := _, after := _, guard := _ }) (v := ?_) rfl (by kernel_rfl) (by kernel_rfl) (by kernel_rfl) (fun _ _ _ h => h) (Or.inl (Or.inl ⟨by rfl, ?_⟩)) hS ?_
    rotate_left
    focus ((intro w hSw; (try dsimp only at hSw); go_simp); (try with_reducible rfl))
    intro wq hwq
    replace hS := hS.trans hwq
    (try simp only [Act.put, List.setIfInBounds_toArray, List.set_cons_zero, List.set_cons_succ])
    clear hwq
    refine wpAnyK_take Later.refl (fun _ _ _ h k => h.trans k) (fun _ _ h k => h.trans k) (i := 31) (oi := { dst := some 68, op := _, type := _, pos := _, after := _, guard := _ }) (v := ?_) rfl (by kernel_rfl) (by kernel_rfl) (by kernel_rfl) (fun _ _ _ h => h) (Or.inl (Or.inl ⟨by rfl, ?_⟩)) hS ?_
    rotate_left
    focus ((intro w hSw; (try dsimp only at hSw); have c0 := (HBL.out.later hSw).cell 0 _ rfl; have c1 := (HBL.out.later hSw).cell 1 _ rfl; have c2 := (HBL.out.later hSw).cell 2 _ rfl; have c3 := (HBL.out.later hSw).cell 3 _ rfl; go_simp); (try with_reducible rfl))
    intro wq hwq
    replace hS := hS.trans hwq
    (try simp only [Act.put, List.setIfInBounds_toArray, List.set_cons_zero, List.set_cons_succ])
    clear hwq
    refine wpAnyK_take Later.refl (fun _ _ _ h k => h.trans k) (fun _ _ h k => h.trans k) (i := 32) (oi := { dst := some 69, op := _, type := _, pos := _, after := _, guard := _ }) (v := ?_) rfl (by kernel_rfl) (by kernel_rfl) (by kernel_rfl) (fun _ _ _ h => h) (Or.inl (Or.inl ⟨by rfl, ?_⟩)) hS ?_
    rotate_left
    focus ((intro w hSw; (try dsimp only at hSw); go_simp); (try with_reducible rfl))
    intro wq hwq
    replace hS := hS.trans hwq
    (try simp only [Act.put, List.setIfInBounds_toArray, List.set_cons_zero, List.set_cons_succ])
    clear hwq
    refine wpAnyK_take Later.refl (fun _ _ _ h k => h.trans k) (fun _ _ h k => h.trans k) (i := 33) (oi := { dst := some 70, op := _, type := _, pos := _, after := _, guard := _ }) (v := ?_) rfl (by kernel_rfl) (by kernel_rfl) (by kernel_rfl) (fun _ _ _ h => h) (Or.inl (Or.inl ⟨by rfl, ?_⟩)) hS ?_
    rotate_left
    focus ((intro w hSw; (try dsimp only at hSw); go_simp); (try with_reducible rfl))
    intro wq hwq
    replace hS := hS.trans hwq
    (try simp only [Act.put, List.setIfInBounds_toArray, List.set_cons_zero, List.set_cons_succ])
    clear hwq
    refine wpAnyK_take Later.refl (fun _ _ _ h k => h.trans k) (fun _ _ h k => h.trans k) (i := 34) (oi := { dst := some 71, op := _, type := _, pos := _, after := _, guard := _ }) (v := ?_) rfl (by kernel_rfl) (by kernel_rfl) (by kernel_rfl) (fun _ _ _ h => h) (Or.inl (Or.inl ⟨by rfl, ?_⟩)) hS ?_
    rotate_left
    focus ((intro w hSw; (try dsimp only at hSw); go_simp); (try with_reducible rfl))
    intro wq hwq
    replace hS := hS.trans hwq
    (try simp only [Act.put, List.setIfInBounds_toArray, List.set_cons_zero, List.set_cons_succ])
    clear hwq
    refine wpAnyK_take Later.refl (fun _ _ _ h k => h.trans k) (fun _ _ h k => h.trans k) (i := 35) (oi := { dst := some 72, op := _, type := _, pos := _, after := _, guard := _ }) (v := ?_) rfl (by kernel_rfl) (by kernel_rfl) (by kernel_rfl) (fun _ _ _ h => h) (Or.inl (Or.inl ⟨by rfl, ?_⟩)) hS ?_
    rotate_left
    focus ((intro w hSw; (try dsimp only at hSw); have c0 := (HBS.out.later hSw).cell 0 _ rfl; go_simp); (try with_reducible rfl))
    intro wq hwq
    replace hS := hS.trans hwq
    (try simp only [Act.put, List.setIfInBounds_toArray, List.set_cons_zero, List.set_cons_succ])
    clear hwq
    refine wpAnyK_take Later.refl (fun _ _ _ h k => h.trans k) (fun _ _ h k => h.trans k) (i := 36) (oi := { dst := some 73, op := _, type := _, pos := _, after := _, guard := _ }) (v := ?_) rfl (by kernel_rfl) (by kernel_rfl) (by kernel_rfl) (fun _ _ _ h => h) (Or.inl (Or.inl ⟨by rfl, ?_⟩)) hS ?_
    rotate_left
    focus ((intro w hSw; (try dsimp only at hSw); go_simp); (try with_reducible rfl))
    intro wq hwq
    replace hS := hS.trans hwq
    (try simp only [Act.put, List.setIfInBounds_toArray, List.set_cons_zero, List.set_cons_succ])
    clear hwq
    refine wpAnyK_take Later.refl (fun _ _ _ h k => h.trans k) (fun _ _ h k => h.trans k) (i := 37) (oi := { dst := some 74, op := _, type := _, pos := _, after := _, guard := _ }) (v := ?_) rfl (by kernel_rfl) (by kernel_rfl) (by kernel_rfl) (fun _ _ _ h => h) (Or.inl (Or.inl ⟨by rfl, ?_⟩)) hS ?_
    rotate_left
    focus ((intro w hSw; (try dsimp only at hSw); have hidx := HIDX.out; have hvn0 := HVN0.out; go_simp); (try with_reducible rfl))
    intro wq hwq
    replace hS := hS.trans hwq
    (try simp only [Act.put, List.setIfInBounds_toArray, List.set_cons_zero, List.set_cons_succ])
    clear hwq
    refine wpAnyK_take Later.refl (fun _ _ _ h k => h.trans k) (fun _ _ h k => h.trans k) (i := 38) (oi := { dst := some 75, op := _, type := _, pos := _, after := _, guard := _ }) (v := ?_) rfl (by kernel_rfl) (by kernel_rfl) (by kernel_rfl) (fun _ _ _ h => h) (Or.inl (Or.inl ⟨by rfl, ?_⟩)) hS ?_
    rotate_left
    focus ((intro w hSw; (try dsimp only at hSw); have hke := HKE.out; go_simp); (try with_reducible rfl))
    intro wq hwq
    replace hS := hS.trans hwq
    (try simp only [Act.put, List.setIfInBounds_toArray, List.set_cons_zero, List.set_cons_succ])
    clear hwq
    refine wpAnyK_take Later.refl (fun _ _ _ h k => h.trans k) (fun _ _ h k => h.trans k) (i := 39) (oi := { dst := some 76, op := _, type := _, pos := _, after := _, guard := _ }) (v := ?_) rfl (by kernel_rfl) (by kernel_rfl) (by kernel_rfl) (fun _ _ _ h => h) (Or.inl (Or.inl ⟨by rfl, ?_⟩)) hS ?_
    rotate_left
    focus ((intro w hSw; (try dsimp only at hSw); have c0 := (HCE.out.later hSw).out; go_simp); (try with_reducible rfl))
    intro wq hwq
    replace hS := hS.trans hwq
    (try simp only [Act.put, List.setIfInBounds_toArray, List.set_cons_zero, List.set_cons_succ])
    clear hwq
    refine wpAnyK_take Later.refl (fun _ _ _ h k => h.trans k) (fun _ _ h k => h.trans k) (i := 40) (oi := { dst := some 77, op := _, type := _, pos := _, after := _, guard := _ }) (v := ?_) rfl (by kernel_rfl) (by kernel_rfl) (by kernel_rfl) (fun _ _ _ h => h) (Or.inl (Or.inl ⟨by rfl, ?_⟩)) hS ?_
    rotate_left
    focus ((intro w hSw; (try dsimp only at hSw); go_simp); (try with_reducible rfl))
    intro wq hwq
    replace hS := hS.trans hwq
    (try simp only [Act.put, List.setIfInBounds_toArray, List.set_cons_zero, List.set_cons_succ])
    clear hwq
    refine wpAnyK_take Later.refl (fun _ _ _ h k => h.trans k) (fun _ _ h k => h.trans k) (i := 42) (oi := { dst := some 79, op := _, type := _, pos := _, after := _, guard := _ }) (v := ?_) rfl (by kernel_rfl) (by kernel_rfl) (by kernel_rfl) (fun _ _ _ h => h) (Or.inl (Or.inl ⟨by rfl, ?_⟩)) hS ?_
    rotate_left
    focus ((intro w hSw; (try dsimp only at hSw); go_simp); (try with_reducible rfl))
    intro wq hwq
    replace hS := hS.trans hwq
    (try simp only [Act.put, List.setIfInBounds_toArray, List.set_cons_zero, List.set_cons_succ])
    clear hwq
    refine wpAnyK_take Later.refl (fun _ _ _ h k => h.trans k) (fun _ _ h k => h.trans k) (i := 43) (oi := { dst := some 80, op := _, type := _, pos := _, after := _, guard := _ }) (v := ?_) rfl (by kernel_rfl) (by kernel_rfl) (by kernel_rfl) (fun _ _ _ h => h) (Or.inl (Or.inl ⟨by rfl, ?_⟩)) hS ?_
    rotate_left
    focus ((intro w hSw; (try dsimp only at hSw); go_simp); (try with_reducible rfl))
    intro wq hwq
    replace hS := hS.trans hwq
    (try simp only [Act.put, List.setIfInBounds_toArray, List.set_cons_zero, List.set_cons_succ])
    clear hwq
    refine wpAnyK_familyD (n := 5) (fuel := 2) Later.refl (fun _ _ _ h k => h.trans k) (fun _ _ h k => h.trans k) [(8, 45), (15, 52), (24, 61), (41, 78), (44, 81)] rfl (by decide) (by kernel_rfl) (by kernel_rfl) (by kernel_rfl) (ψ := fun i v W => ∃ b, v = .slice (some ⟨b, 0, none⟩) 2 2 ∧ Blk W b (chs (bkA sv kx idv nmv ev (opK i)) (bkB sv kx idv nmv ev (opK i))).toArray 31) (fun i v W W' h l => ⟨h.choose, h.choose_spec.1, h.choose_spec.2.later l⟩) ?_ hS ?_
    · intro i hi
      simp only [List.map_cons, List.map_nil, List.mem_cons, List.not_mem_nil, or_false] at hi
      rcases hi with rfl | rfl | rfl | rfl | rfl
      · exact ⟨_, rfl, by kernel_rfl, fun w hSw => ⟨_, _, exec_pair _ _ _ _ w rfl (bkA sv kx idv nmv ev (opK 8)) (bkB sv kx idv nmv ev (opK 8)) (by kernel_rfl) (by kernel_rfl), Later.new w _, w.heap.size, rfl, Blk.new w _ _ _ rfl⟩⟩
      · exact ⟨_, rfl, by kernel_rfl, fun w hSw => ⟨_, _, exec_pair _ _ _ _ w rfl (bkA sv kx idv nmv ev (opK 15)) (bkB sv kx idv nmv ev (opK 15)) (by kernel_rfl) (by kernel_rfl), Later.new w _, w.heap.size, rfl, Blk.new w _ _ _ rfl⟩⟩
      · exact ⟨_, rfl, by kernel_rfl, fun w hSw => ⟨_, _, exec_pair _ _ _ _ w rfl (bkA sv kx idv nmv ev (opK 24)) (bkB sv kx idv nmv ev (opK 24)) (by kernel_rfl) (by kernel_rfl), Later.new w _, w.heap.size, rfl, Blk.new w _ _ _ rfl⟩⟩
      · exact ⟨_, rfl, by kernel_rfl, fun w hSw => ⟨_, _, exec_pair _ _ _ _ w rfl (bkA sv kx idv nmv ev (opK 41)) (bkB sv kx idv nmv ev (opK 41)) (by kernel_rfl) (by kernel_rfl), Later.new w _, w.heap.size, rfl, Blk.new w _ _ _ rfl⟩⟩
      · exact ⟨_, rfl, by kernel_rfl, fun w hSw => ⟨_, _, exec_pair _ _ _ _ w rfl (bkA sv kx idv nmv ev (opK 44)) (bkB sv kx idv nmv ev (opK 44)) (by kernel_rfl) (by kernel_rfl), Later.new w _, w.heap.size, rfl, Blk.new w _ _ _ rfl⟩⟩
    intro vs wq hwq hSq hψ
    obtain ⟨b0, e0, B0⟩ := hψ 8 (by simp)
    obtain ⟨b1, e1, B1⟩ := hψ 15 (by simp)
    obtain ⟨b2, e2, B2⟩ := hψ 24 (by simp)
    obtain ⟨b3, e3, B3⟩ := hψ 41 (by simp)
    obtain ⟨b4, e4, B4⟩ := hψ 44 (by simp)
    clear hψ hwq
    replace hS := hSq
    simp only [putFam, List.foldl_cons, List.foldl_nil, e0, e1, e2, e3, e4]
    (try simp only [Act.put, List.setIfInBounds_toArray, List.set_cons_zero, List.set_cons_succ])
    refine wpAnyK_all (rs := [45]) (by kernel_rfl) (by simp) (fun i hi => ?_)
    simp only [List.mem_cons, List.not_mem_nil, or_false] at hi
    subst hi
    refine stepK (o := { dst := some 82, op := _, type := _, pos := _, after := _, guard := _ }) rfl (fun K hK => ?_)
    rw [if_pos (by rfl)]
    refine wp_five (.tmp 45) (.tmp 52) (.tmp 61) (.tmp 78) (.tmp 81) rfl b0 b1 b2 b3 b4 (by kernel_rfl) (by kernel_rfl) (by kernel_rfl) (by kernel_rfl) (by kernel_rfl) ?_
    refine hK _ _ (hS.alloc _) (fun wy hy => ?_)
    obtain ⟨go, hgo⟩ : ∃ x, wq.heap.size = x := ⟨_, rfl⟩
    have l45 : Later wq wy := (Later.new wq (.cells #[.slice (some ⟨b0, 0, none⟩) 2 2, .slice (some ⟨b1, 0, none⟩) 2 2, .slice (some ⟨b2, 0, none⟩) 2 2, .slice (some ⟨b3, 0, none⟩) 2 2, .slice (some ⟨b4, 0, none⟩) 2 2] 44)).trans hy
    have BO := (Blk.new wq #[.slice (some ⟨b0, 0, none⟩) 2 2, .slice (some ⟨b1, 0, none⟩) 2 2, .slice (some ⟨b2, 0, none⟩) 2 2, .slice (some ⟨b3, 0, none⟩) 2 2, .slice (some ⟨b4, 0, none⟩) 2 2] 44 go hgo.symm).later hy
    replace B0 := B0.later l45
    replace B1 := B1.later l45
    replace B2 := B2.later l45
    replace B3 := B3.later l45
    replace B4 := B4.later l45
    replace hS := hS.trans l45
    rw [hgo]
    clear hK hy hgo e0 e1 e2 e3 e4 l45
    (try simp only [Act.put, List.setIfInBounds_toArray, List.set_cons_zero, List.set_cons_succ])
    refine wpAnyK_take Later.refl (fun _ _ _ h k => h.trans k) (fun _ _ h k => h.trans k) (i := 46) (oi := { dst := some 8, op := _, type := _, pos := _, after := _, guard := _ }) (v := ?_) rfl (by kernel_rfl) (by kernel_rfl) (by kernel_rfl) (fun _ _ _ h => h) (Or.inl (Or.inl ⟨by rfl, ?_⟩)) hS ?_
    rotate_left
    focus ((intro w hSw; (try dsimp only at hSw); go_simp); (try with_reducible rfl))
    intro wz hwz
    replace hS := hS.trans hwz
    (try simp only [Act.put, List.setIfInBounds_toArray, List.set_cons_zero, List.set_cons_succ])
    have HCH := Lib.hid (show ∀ k, k < 5 → ∃ b, CellIs wz ⟨go, k, none⟩ (.slice (some ⟨b, 0, none⟩) 2 2) ∧ Blk wz b (chs (bkA sv kx idv nmv ev k) (bkB sv kx idv nmv ev k)).toArray 31 from fun k hk => by
      obtain rfl | rfl | rfl | rfl | rfl : k = 0 ∨ k = 1 ∨ k = 2 ∨ k = 3 ∨ k = 4 := by omega
      · exact ⟨b0, (show CellIs wy ⟨go, 0, none⟩ _ from BO.cell 0 _ rfl).later hwz, B0.later hwz⟩
      · exact ⟨b1, (show CellIs wy ⟨go, 1, none⟩ _ from BO.cell 1 _ rfl).later hwz, B1.later hwz⟩
      · exact ⟨b2, (show CellIs wy ⟨go, 2, none⟩ _ from BO.cell 2 _ rfl).later hwz, B2.later hwz⟩
      · exact ⟨b3, (show CellIs wy ⟨go, 3, none⟩ _ from BO.cell 3 _ rfl).later hwz, B3.later hwz⟩
      · exact ⟨b4, (show CellIs wy ⟨go, 4, none⟩ _ from BO.cell 4 _ rfl).later hwz, B4.later hwz⟩)
    have HSZ := Lib.hid hS
    clear hwz hS BO B0 B1 B2 B3 B4
    refine wpAnyK_done (by kernel_rfl) ?_ _
    go_wp2_with fail
    go_meet
    exact ⟨go, rfl, HCH.out, HSZ.out⟩
  case rest =>
  obtain ⟨go, rfl, hch, lc⟩ := hcut
  have HCH := Lib.hid hch
  have HBS2 := Lib.hid (HBS.out.later lc)
  have HBL2 := Lib.hid (HBL.out.later lc)
  have OV6 := Lib.hid (OV5.out.later lc)
  have OE6 := Lib.hid (OE5.out.later lc)
  have HL6 := Lib.hid (HL5.out.trans lc)
  clear hch lc HBS HBL HBC HCE OV5 OE5 HL5 HIDX HVN0 HKC HKE
  go_wp2_with fail
  go_loopw [9] (fun iv wr => ∃ k : Nat, k ≤ 5 ∧ iv = .int .i64 k ∧ Later wc wr) (fun i _ => 5 - (intOf i).toNat)
  case atStart => exact ⟨0, by omega, rfl, Later.refl _⟩
  case round =>
    obtain ⟨k, hk, rfl, lat⟩ := hrel
    have HLT := Lib.hid (HL6.out.trans lat)
    by_cases hlt : k < 5
    rotate_left
    · have hkk : ¬ (k : Int) < 5 := by omega
      go_wp2_with fail
      go_ret
      exact ⟨rfl, HLT.out⟩
    have hkk : (k : Int) < 5 := by omega
    obtain ⟨b, hcb, hbb⟩ := HCH.out k hlt
    obtain ⟨⟨s1, hs1, hs2, hln1, hln2, hsm1⟩, hna, hnb⟩ := HBK.out k hlt
    generalize bkA sv kx idv nmv ev k = ca at hbb hs1 hna
    generalize bkB sv kx idv nmv ev k = cb at hbb hs2 hnb
    have HCB := Lib.hid ((hcb : CellIs wc ⟨go, k, none⟩ (.slice (some ⟨b, 0, none⟩) 2 2)).later lat)
    have HBB := Lib.hid (hbb.later lat)
    have HBS3 := Lib.hid (HBS2.out.later lat)
    have HBL3 := Lib.hid (HBL2.out.later lat)
    have OV7 := Lib.hid (OV6.out.later lat)
    have OE7 := Lib.hid (OE6.out.later lat)
    have HLAT := Lib.hid lat
    have HS1 := Lib.hid hs1
    have HS2 := Lib.hid hs2
    have HN1 := Lib.hid (show s1.1.length ≤ 1000 ∧ s1.2.2.enc.length ≤ 1000 from ⟨by rw [hln1]; exact HLEN.out.1, by rw [hln2]; exact HLEN.out.2⟩)
    have HSM1 := Lib.hid hsm1
    have HNB := Lib.hid hnb
    have HAP := Lib.hid (fun (W : World) (l : Later wr W) => show Calls Tryd.prog 14 #[.agg #[.slice (some ⟨gv, 0, none⟩) sv.1.length vc, .int .i64 sv.2.1], .agg #[.int .i64 sv.2.2.sb, .int .i64 sv.2.2.pb, .int .i64 sv.2.2.parts, .slice (some ⟨ge, 0, none⟩) sv.2.2.enc.length ec], .agg #[.int .i64 ca.kind, .int .i64 ca.col, .string ca.name, .int .i64 ca.typ, .int .i64 ca.val.1, .int .i64 ca.val.2.1, .string ca.val.2.2, .int .u8 ca.sep, .int .i64 ca.num]] W (ApP sv ca W) from schApply_any (some ⟨gv, 0, none⟩) (some ⟨ge, 0, none⟩) vc ec sv ca W f (HS.out.later (HLT.out.trans l)) (H3.out.later (HLT.out.trans l)) (OV7.out.later l) (OE7.out.later l) HLEN.out.1 HLEN.out.2 HSM.out hna (fun h => by cases h) (fun h => by cases h))
    clear hcb hbb lat hs1 hs2 hln1 hln2 hsm1 hnb hna
    go_upto_region 11 with fail
    go_cut [10, 11, 12] from 89 to 101 (fun pv qv ev wx => ResP sv ca wr pv qv ev wx)
    case first => as_aux_lemma =>
      refine wp_region_K (S := (fun W : World => Later wr W)) (R := fun a b => a = b) (fun _ => rfl) (by kernel_rfl) ?_
      obtain ⟨y0, hy0⟩ : ∃ x, wr.drew = x := ⟨_, rfl⟩
      have hS : (fun W : World => Later wr W) y0 := hy0 ▸ (Later.refl wr).drew
      rw [hy0]
      clear hy0
      refine wpAnyK_take (fun _ => rfl) (fun _ _ _ h k => h.trans k) (fun _ _ h k => k ▸ h) (i := 0) (oi := { dst := some 90, op := _, type := _, pos := _, after := _, guard := _ }) (v := ?_) rfl (by kernel_rfl) (by kernel_rfl) (by kernel_rfl) (fun _ _ _ h => h) (Or.inl (Or.inl ⟨by rfl, ?_⟩)) hS ?_
      rotate_left
      focus ((intro w hSw; (try dsimp only at hSw); have e0 := (HBS3.out.later hSw).cell 0 _ rfl; have e1 := (HBS3.out.later hSw).cell 1 _ rfl; have d0 := (HBL3.out.later hSw).cell 0 _ rfl; have d1 := (HBL3.out.later hSw).cell 1 _ rfl; have d2 := (HBL3.out.later hSw).cell 2 _ rfl; have d3 := (HBL3.out.later hSw).cell 3 _ rfl; have cb := (HCB.out.later hSw).out; have q0 := (HBB.out.later hSw).cell 0 _ rfl; have q1 := (HBB.out.later hSw).cell 1 _ rfl; have q2 := (HBB.out.later hSw).cell 2 _ rfl; have q3 := (HBB.out.later hSw).cell 3 _ rfl; have q4 := (HBB.out.later hSw).cell 4 _ rfl; have q5 := (HBB.out.later hSw).cell 5 _ rfl; have q6 := (HBB.out.later hSw).cell 6 _ rfl; have q7 := (HBB.out.later hSw).cell 7 _ rfl; have q8 := (HBB.out.later hSw).cell 8 _ rfl; go_simp); (try with_reducible rfl))
      intro wq hwq
      subst hwq
      (try simp only [Act.put, List.setIfInBounds_toArray, List.set_cons_zero, List.set_cons_succ])
      refine wpAnyK_take (fun _ => rfl) (fun _ _ _ h k => h.trans k) (fun _ _ h k => k ▸ h) (i := 1) (oi := { dst := some 91, op := _, type := _, pos := _, after := _, guard := _ }) (v := ?_) rfl (by kernel_rfl) (by kernel_rfl) (by kernel_rfl) (fun _ _ _ h => h) (Or.inl (Or.inl ⟨by rfl, ?_⟩)) hS ?_
      rotate_left
      focus ((intro w hSw; (try dsimp only at hSw); have e0 := (HBS3.out.later hSw).cell 0 _ rfl; have e1 := (HBS3.out.later hSw).cell 1 _ rfl; have d0 := (HBL3.out.later hSw).cell 0 _ rfl; have d1 := (HBL3.out.later hSw).cell 1 _ rfl; have d2 := (HBL3.out.later hSw).cell 2 _ rfl; have d3 := (HBL3.out.later hSw).cell 3 _ rfl; have cb := (HCB.out.later hSw).out; have q0 := (HBB.out.later hSw).cell 0 _ rfl; have q1 := (HBB.out.later hSw).cell 1 _ rfl; have q2 := (HBB.out.later hSw).cell 2 _ rfl; have q3 := (HBB.out.later hSw).cell 3 _ rfl; have q4 := (HBB.out.later hSw).cell 4 _ rfl; have q5 := (HBB.out.later hSw).cell 5 _ rfl; have q6 := (HBB.out.later hSw).cell 6 _ rfl; have q7 := (HBB.out.later hSw).cell 7 _ rfl; have q8 := (HBB.out.later hSw).cell 8 _ rfl; go_simp); (try with_reducible rfl))
      intro wq hwq
      subst hwq
      (try simp only [Act.put, List.setIfInBounds_toArray, List.set_cons_zero, List.set_cons_succ])
      refine wpAnyK_take (fun _ => rfl) (fun _ _ _ h k => h.trans k) (fun _ _ h k => k ▸ h) (i := 2) (oi := { dst := some 92, op := _, type := _, pos := _, after := _, guard := _ }) (v := ?_) rfl (by kernel_rfl) (by kernel_rfl) (by kernel_rfl) (fun _ _ _ h => h) (Or.inl (Or.inl ⟨by rfl, ?_⟩)) hS ?_
      rotate_left
      focus ((intro w hSw; (try dsimp only at hSw); have e0 := (HBS3.out.later hSw).cell 0 _ rfl; have e1 := (HBS3.out.later hSw).cell 1 _ rfl; have d0 := (HBL3.out.later hSw).cell 0 _ rfl; have d1 := (HBL3.out.later hSw).cell 1 _ rfl; have d2 := (HBL3.out.later hSw).cell 2 _ rfl; have d3 := (HBL3.out.later hSw).cell 3 _ rfl; have cb := (HCB.out.later hSw).out; have q0 := (HBB.out.later hSw).cell 0 _ rfl; have q1 := (HBB.out.later hSw).cell 1 _ rfl; have q2 := (HBB.out.later hSw).cell 2 _ rfl; have q3 := (HBB.out.later hSw).cell 3 _ rfl; have q4 := (HBB.out.later hSw).cell 4 _ rfl; have q5 := (HBB.out.later hSw).cell 5 _ rfl; have q6 := (HBB.out.later hSw).cell 6 _ rfl; have q7 := (HBB.out.later hSw).cell 7 _ rfl; have q8 := (HBB.out.later hSw).cell 8 _ rfl; go_simp); (try with_reducible rfl))
      intro wq hwq
      subst hwq
      (try simp only [Act.put, List.setIfInBounds_toArray, List.set_cons_zero, List.set_cons_succ])
      refine wpAnyK_take (fun _ => rfl) (fun _ _ _ h k => h.trans k) (fun _ _ h k => k ▸ h) (i := 3) (oi := { dst := some 93, op := _, type := _, pos := _, after := _, guard := _ }) (v := ?_) rfl (by kernel_rfl) (by kernel_rfl) (by kernel_rfl) (fun _ _ _ h => h) (Or.inl (Or.inl ⟨by rfl, ?_⟩)) hS ?_
      rotate_left
      focus ((intro w hSw; (try dsimp only at hSw); have e0 := (HBS3.out.later hSw).cell 0 _ rfl; have e1 := (HBS3.out.later hSw).cell 1 _ rfl; have d0 := (HBL3.out.later hSw).cell 0 _ rfl; have d1 := (HBL3.out.later hSw).cell 1 _ rfl; have d2 := (HBL3.out.later hSw).cell 2 _ rfl; have d3 := (HBL3.out.later hSw).cell 3 _ rfl; have cb := (HCB.out.later hSw).out; have q0 := (HBB.out.later hSw).cell 0 _ rfl; have q1 := (HBB.out.later hSw).cell 1 _ rfl; have q2 := (HBB.out.later hSw).cell 2 _ rfl; have q3 := (HBB.out.later hSw).cell 3 _ rfl; have q4 := (HBB.out.later hSw).cell 4 _ rfl; have q5 := (HBB.out.later hSw).cell 5 _ rfl; have q6 := (HBB.out.later hSw).cell 6 _ rfl; have q7 := (HBB.out.later hSw).cell 7 _ rfl; have q8 := (HBB.out.later hSw).cell 8 _ rfl; go_simp); (try with_reducible rfl))
      intro wq hwq
      subst hwq
      (try simp only [Act.put, List.setIfInBounds_toArray, List.set_cons_zero, List.set_cons_succ])
      refine wpAnyK_take (fun _ => rfl) (fun _ _ _ h k => h.trans k) (fun _ _ h k => k ▸ h) (i := 4) (oi := { dst := some 94, op := _, type := _, pos := _, after := _, guard := _ }) (v := ?_) rfl (by kernel_rfl) (by kernel_rfl) (by kernel_rfl) (fun _ _ _ h => h) (Or.inl (Or.inl ⟨by rfl, ?_⟩)) hS ?_
      rotate_left
      focus ((intro w hSw; (try dsimp only at hSw); have e0 := (HBS3.out.later hSw).cell 0 _ rfl; have e1 := (HBS3.out.later hSw).cell 1 _ rfl; have d0 := (HBL3.out.later hSw).cell 0 _ rfl; have d1 := (HBL3.out.later hSw).cell 1 _ rfl; have d2 := (HBL3.out.later hSw).cell 2 _ rfl; have d3 := (HBL3.out.later hSw).cell 3 _ rfl; have cb := (HCB.out.later hSw).out; have q0 := (HBB.out.later hSw).cell 0 _ rfl; have q1 := (HBB.out.later hSw).cell 1 _ rfl; have q2 := (HBB.out.later hSw).cell 2 _ rfl; have q3 := (HBB.out.later hSw).cell 3 _ rfl; have q4 := (HBB.out.later hSw).cell 4 _ rfl; have q5 := (HBB.out.later hSw).cell 5 _ rfl; have q6 := (HBB.out.later hSw).cell 6 _ rfl; have q7 := (HBB.out.later hSw).cell 7 _ rfl; have q8 := (HBB.out.later hSw).cell 8 _ rfl; go_simp); (try with_reducible rfl))
      intro wq hwq
      subst hwq
      (try simp only [Act.put, List.setIfInBounds_toArray, List.set_cons_zero, List.set_cons_succ])
      refine wpAnyK_take (fun _ => rfl) (fun _ _ _ h k => h.trans k) (fun _ _ h k => k ▸ h) (i := 5) (oi := { dst := some 95, op := _, type := _, pos := _, after := _, guard := _ }) (v := ?_) rfl (by kernel_rfl) (by kernel_rfl) (by kernel_rfl) (fun _ _ _ h => h) (Or.inl (Or.inl ⟨by rfl, ?_⟩)) hS ?_
      rotate_left
      focus ((intro w hSw; (try dsimp only at hSw); have e0 := (HBS3.out.later hSw).cell 0 _ rfl; have e1 := (HBS3.out.later hSw).cell 1 _ rfl; have d0 := (HBL3.out.later hSw).cell 0 _ rfl; have d1 := (HBL3.out.later hSw).cell 1 _ rfl; have d2 := (HBL3.out.later hSw).cell 2 _ rfl; have d3 := (HBL3.out.later hSw).cell 3 _ rfl; have cb := (HCB.out.later hSw).out; have q0 := (HBB.out.later hSw).cell 0 _ rfl; have q1 := (HBB.out.later hSw).cell 1 _ rfl; have q2 := (HBB.out.later hSw).cell 2 _ rfl; have q3 := (HBB.out.later hSw).cell 3 _ rfl; have q4 := (HBB.out.later hSw).cell 4 _ rfl; have q5 := (HBB.out.later hSw).cell 5 _ rfl; have q6 := (HBB.out.later hSw).cell 6 _ rfl; have q7 := (HBB.out.later hSw).cell 7 _ rfl; have q8 := (HBB.out.later hSw).cell 8 _ rfl; go_simp); (try with_reducible rfl))
      intro wq hwq
      subst hwq
      (try simp only [Act.put, List.setIfInBounds_toArray, List.set_cons_zero, List.set_cons_succ])
      refine wpAnyK_take (fun _ => rfl) (fun _ _ _ h k => h.trans k) (fun _ _ h k => k ▸ h) (i := 6) (oi := { dst := some 96, op := _, type := _, pos := _, after := _, guard := _ }) (v := ?_) rfl (by kernel_rfl) (by kernel_rfl) (by kernel_rfl) (fun _ _ _ h => h) (Or.inl (Or.inl ⟨by rfl, ?_⟩)) hS ?_
      rotate_left
      focus ((intro w hSw; (try dsimp only at hSw); have e0 := (HBS3.out.later hSw).cell 0 _ rfl; have e1 := (HBS3.out.later hSw).cell 1 _ rfl; have d0 := (HBL3.out.later hSw).cell 0 _ rfl; have d1 := (HBL3.out.later hSw).cell 1 _ rfl; have d2 := (HBL3.out.later hSw).cell 2 _ rfl; have d3 := (HBL3.out.later hSw).cell 3 _ rfl; have cb := (HCB.out.later hSw).out; have q0 := (HBB.out.later hSw).cell 0 _ rfl; have q1 := (HBB.out.later hSw).cell 1 _ rfl; have q2 := (HBB.out.later hSw).cell 2 _ rfl; have q3 := (HBB.out.later hSw).cell 3 _ rfl; have q4 := (HBB.out.later hSw).cell 4 _ rfl; have q5 := (HBB.out.later hSw).cell 5 _ rfl; have q6 := (HBB.out.later hSw).cell 6 _ rfl; have q7 := (HBB.out.later hSw).cell 7 _ rfl; have q8 := (HBB.out.later hSw).cell 8 _ rfl; go_simp); (try with_reducible rfl))
      intro wq hwq
      subst hwq
      (try simp only [Act.put, List.setIfInBounds_toArray, List.set_cons_zero, List.set_cons_succ])
      refine wpAnyK_take (fun _ => rfl) (fun _ _ _ h k => h.trans k) (fun _ _ h k => k ▸ h) (i := 7) (oi := { dst := some 97, op := _, type := _, pos := _, after := _, guard := _ }) (v := ?_) rfl (by kernel_rfl) (by kernel_rfl) (by kernel_rfl) (fun _ _ _ h => h) (Or.inl (Or.inl ⟨by rfl, ?_⟩)) hS ?_
      rotate_left
      focus ((intro w hSw; (try dsimp only at hSw); have e0 := (HBS3.out.later hSw).cell 0 _ rfl; have e1 := (HBS3.out.later hSw).cell 1 _ rfl; have d0 := (HBL3.out.later hSw).cell 0 _ rfl; have d1 := (HBL3.out.later hSw).cell 1 _ rfl; have d2 := (HBL3.out.later hSw).cell 2 _ rfl; have d3 := (HBL3.out.later hSw).cell 3 _ rfl; have cb := (HCB.out.later hSw).out; have q0 := (HBB.out.later hSw).cell 0 _ rfl; have q1 := (HBB.out.later hSw).cell 1 _ rfl; have q2 := (HBB.out.later hSw).cell 2 _ rfl; have q3 := (HBB.out.later hSw).cell 3 _ rfl; have q4 := (HBB.out.later hSw).cell 4 _ rfl; have q5 := (HBB.out.later hSw).cell 5 _ rfl; have q6 := (HBB.out.later hSw).cell 6 _ rfl; have q7 := (HBB.out.later hSw).cell 7 _ rfl; have q8 := (HBB.out.later hSw).cell 8 _ rfl; go_simp); (try with_reducible rfl))
      intro wq hwq
      subst hwq
      (try simp only [Act.put, List.setIfInBounds_toArray, List.set_cons_zero, List.set_cons_succ])
      refine wpAnyK_all (rs := [8, 13, 14]) (by kernel_rfl) (by simp) (fun i hi => ?_)
      simp only [List.mem_cons, List.not_mem_nil, or_false] at hi
      rcases hi with rfl | rfl | rfl
      · refine stepK (o := { dst := some 98, op := _, type := _, pos := _, after := _, guard := _ }) rfl (fun K hK => ?_)
        go_simp
        refine (HAP.out _ hS).mono ?_
        intro e y1 hap
        obtain ⟨VA, vn, vcp, vlast, vsb, vpb, vparts, VE, ven, vec, vev, rfl, hv, lc⟩ := hap.v (Later.size hS)
        have HV := Lib.hid hv
        replace hS : (fun W : World => Later wr W) y1 := Later.trans hS lc
        refine hK _ _ hS fun wq hwq => ?_
        subst hwq
        clear hK hap hv lc
        (try simp only [Act.put, List.setIfInBounds_toArray, List.set_cons_zero, List.set_cons_succ])
        refine wpAnyK_take (fun _ => rfl) (fun _ _ _ h k => h.trans k) (fun _ _ h k => k ▸ h) (i := 9) (oi := { dst := some 89, op := _, type := _, pos := _, after := _, guard := _ }) (v := ?_) rfl (by kernel_rfl) (by kernel_rfl) (by kernel_rfl) (fun _ _ _ h => h) (Or.inl (Or.inl ⟨by rfl, ?_⟩)) hS ?_
        rotate_left
        focus ((intro w hSw; (try dsimp only at hSw); skip; go_simp); (try with_reducible rfl))
        intro wq hwq
        subst hwq
        (try simp only [Act.put, List.setIfInBounds_toArray, List.set_cons_zero, List.set_cons_succ])
        refine wpAnyK_take (fun _ => rfl) (fun _ _ _ h k => h.trans k) (fun _ _ h k => k ▸ h) (i := 10) (oi := { dst := some 99, op := _, type := _, pos := _, after := _, guard := _ }) (v := ?_) rfl (by kernel_rfl) (by kernel_rfl) (by kernel_rfl) (fun _ _ _ h => h) (Or.inl (Or.inl ⟨by rfl, ?_⟩)) hS ?_
        rotate_left
        focus ((intro w hSw; (try dsimp only at hSw); skip; go_simp); (try with_reducible rfl))
        intro wq hwq
        subst hwq
        (try simp only [Act.put, List.setIfInBounds_toArray, List.set_cons_zero, List.set_cons_succ])
        refine wpAnyK_take (fun _ => rfl) (fun _ _ _ h k => h.trans k) (fun _ _ h k => k ▸ h) (i := 11) (oi := { dst := some 100, op := _, type := _, pos := _, after := _, guard := _ }) (v := ?_) rfl (by kernel_rfl) (by kernel_rfl) (by kernel_rfl) (fun _ _ _ h => h) (Or.inl (Or.inl ⟨by rfl, ?_⟩)) hS ?_
        rotate_left
        focus ((intro w hSw; (try dsimp only at hSw); skip; go_simp); (try with_reducible rfl))
        intro wq hwq
        subst hwq
        (try simp only [Act.put, List.setIfInBounds_toArray, List.set_cons_zero, List.set_cons_succ])
        refine wpAnyK_take (fun _ => rfl) (fun _ _ _ h k => h.trans k) (fun _ _ h k => k ▸ h) (i := 12) (oi := { dst := some 101, op := _, type := _, pos := _, after := _, guard := _ }) (v := ?_) rfl (by kernel_rfl) (by kernel_rfl) (by kernel_rfl) (fun _ _ _ h => h) (Or.inl (Or.inl ⟨by rfl, ?_⟩)) hS ?_
        rotate_left
        focus ((intro w hSw; (try dsimp only at hSw); skip; go_simp); (try with_reducible rfl))
        intro wq hwq
        subst hwq
        (try simp only [Act.put, List.setIfInBounds_toArray, List.set_cons_zero, List.set_cons_succ])
        refine wpAnyK_all (rs := [13, 14]) (by kernel_rfl) (by simp) (fun i hi => ?_)
        simp only [List.mem_cons, List.not_mem_nil, or_false] at hi
        rcases hi with rfl | rfl
        · refine stepK (o := { dst := some 10, op := _, type := _, pos := _, after := _, guard := _ }) rfl (fun K hK => ?_)
          go_simp
          obtain ⟨ga, hgg⟩ : ∃ x, y1.heap.size = x := ⟨_, rfl⟩
          obtain ⟨y2, hyy⟩ : ∃ x, y1.alloc (.cells zS.toArray 24) = x := ⟨_, rfl⟩
          have lc : Later y1 y2 := hyy ▸ Later.new _ _
          have HA := Lib.hid (show Blk y2 ga zS.toArray 24 from hyy ▸ Blk.new _ _ _ _ hgg.symm)
          have HGA := Lib.hid (show wr.heap.size ≤ ga from hgg ▸ Later.size hS)
          replace hS : (fun W : World => Later wr W) y2 := Later.trans hS lc
          have HV := Lib.hid (HV.out.later lc)
          try rw [hgg]
          unfold zS at hyy
          rw [hyy]
          refine hK _ _ hS fun wq hwq => ?_
          subst hwq
          clear hK lc hyy hgg
          (try simp only [Act.put, List.setIfInBounds_toArray, List.set_cons_zero, List.set_cons_succ])
          refine wpAnyK_all (rs := [14]) (by kernel_rfl) (by simp) (fun i hi => ?_)
          simp only [List.mem_cons, List.not_mem_nil, or_false] at hi
          subst hi
          refine stepK (o := { dst := some 11, op := _, type := _, pos := _, after := _, guard := _ }) rfl (fun K hK => ?_)
          go_simp
          obtain ⟨gb, hgg⟩ : ∃ x, y2.heap.size = x := ⟨_, rfl⟩
          obtain ⟨y3, hyy⟩ : ∃ x, y2.alloc (.cells zL.toArray 27) = x := ⟨_, rfl⟩
          have lc : Later y2 y3 := hyy ▸ Later.new _ _
          have HB := Lib.hid (show Blk y3 gb zL.toArray 27 from hyy ▸ Blk.new _ _ _ _ hgg.symm)
          have HGB := Lib.hid (show wr.heap.size ≤ gb from hgg ▸ Later.size hS)
          replace hS : (fun W : World => Later wr W) y3 := Later.trans hS lc
          have HV := Lib.hid (HV.out.later lc)
          have HA := Lib.hid (HA.out.later lc)
          try rw [hgg]
          unfold zL at hyy
          rw [hyy]
          refine hK _ _ hS fun wq hwq => ?_
          subst hwq
          clear hK lc hyy hgg
          (try simp only [Act.put, List.setIfInBounds_toArray, List.set_cons_zero, List.set_cons_succ])
          have hab : ga ≠ gb := ne_typ HA.out HB.out (by decide)
          refine wpAnyK_all (rs := [15]) (by kernel_rfl) (by simp) (fun i hi => ?_)
          simp only [List.mem_cons, List.not_mem_nil, or_false] at hi
          subst hi
          refine stepK (o := { dst := none, op := _, type := _, pos := _, after := _, guard := _ }) rfl (fun K hK => ?_)
          rw [if_pos (by rfl)]
          refine wp_store_mid 24 _ _ rfl ga 0 #[.slice VA vn vcp, .int .i64 vlast] rfl rfl (fun j hj => by rw [Nat.zero_add]; have hj2 : j < 2 := hj; exact ⟨by rw [cell_of_row y3 ga j _ _ _ HA.out, Array.getElem?_eq_getElem (by exact hj2)]; rfl, HA.out.frozen j⟩) (by kernel_rfl) (by simp [Value.oneCell']) ?_
          have hA2 := Blk.fill zS [.slice VA vn vcp, .int .i64 vlast] HA.out rfl
          have hB2 := HB.out.aside hab.symm 0 [.slice VA vn vcp, .int .i64 vlast]
          have hV2 := HV.out.fill HA.out (by decide) (by decide) 0 [.slice VA vn vcp, .int .i64 vlast]
          have hS : (fun W : World => Later wr W) (y3.setCells ga 0 [.slice VA vn vcp, .int .i64 vlast]) := Later.fill hS HGA.out 0 _
          refine hK _ _ hS fun wq hwq => ?_
          obtain ⟨z1, hz1⟩ : ∃ x, y3.setCells ga 0 [.slice VA vn vcp, .int .i64 vlast] = x := ⟨_, rfl⟩
          rw [hz1] at hA2 hB2 hV2 hS
          have hz2 : z1 = wq := hz1.symm.trans hwq
          subst hz2
          clear hK hwq hz1
          (try simp only [Act.put])
          refine wpAnyK_all (rs := [16]) (by kernel_rfl) (by simp) (fun i hi => ?_)
          simp only [List.mem_cons, List.not_mem_nil, or_false] at hi
          subst hi
          refine stepK (o := { dst := none, op := _, type := _, pos := _, after := _, guard := _ }) rfl (fun K hK => ?_)
          rw [if_pos (by rfl)]
          refine wp_store_mid 27 _ _ rfl gb 0 #[.int .i64 vsb, .int .i64 vpb, .int .i64 vparts, .slice VE ven vec] rfl rfl (fun j hj => by rw [Nat.zero_add]; have hj2 : j < 4 := hj; exact ⟨by rw [cell_of_row z1 gb j _ _ _ hB2, Array.getElem?_eq_getElem (by exact hj2)]; rfl, hB2.frozen j⟩) (by kernel_rfl) (by simp [Value.oneCell']) ?_
          have hB3 := Blk.fill zL [.int .i64 vsb, .int .i64 vpb, .int .i64 vparts, .slice VE ven vec] hB2 rfl
          have hA3 := hA2.aside hab 0 [.int .i64 vsb, .int .i64 vpb, .int .i64 vparts, .slice VE ven vec]
          have hV3 := hV2.fill hB2 (by decide) (by decide) 0 [.int .i64 vsb, .int .i64 vpb, .int .i64 vparts, .slice VE ven vec]
          have hS : (fun W : World => Later wr W) (z1.setCells gb 0 [.int .i64 vsb, .int .i64 vpb, .int .i64 vparts, .slice VE ven vec]) := Later.fill hS HGB.out 0 _
          refine hK _ _ hS fun wq hwq => ?_
          obtain ⟨z2, hz1⟩ : ∃ x, z1.setCells gb 0 [.int .i64 vsb, .int .i64 vpb, .int .i64 vparts, .slice VE ven vec] = x := ⟨_, rfl⟩
          rw [hz1] at hA3 hB3 hV3 hS
          have hz2 : z2 = wq := hz1.symm.trans hwq
          subst hz2
          clear hK hwq hz1 hA2 hB2 hV2
          (try simp only [Act.put])
          refine wpAnyK_take (fun _ => rfl) (fun _ _ _ h k => h.trans k) (fun _ _ h k => k ▸ h) (i := 17) (oi := { dst := some 12, op := _, type := _, pos := _, after := _, guard := _ }) (v := ?_) rfl (by kernel_rfl) (by kernel_rfl) (by kernel_rfl) (fun _ _ _ h => h) (Or.inl (Or.inl ⟨by rfl, ?_⟩)) hS ?_
          rotate_left
          focus ((intro w hSw; (try dsimp only at hSw); skip; go_simp); (try with_reducible rfl))
          intro wq hwq
          subst hwq
          (try simp only [Act.put, List.setIfInBounds_toArray, List.set_cons_zero, List.set_cons_succ])
          refine wpAnyK_done (by kernel_rfl) ?_ _
          go_wp2_with fail
          go_meet
          exact ⟨ga, gb, VA, vn, vcp, vlast, vsb, vpb, vparts, VE, ven, vec, vev, rfl, rfl, rfl, hV3, hA3, hB3, hab, HGA.out, HGB.out, hS⟩
        · refine stepK (o := { dst := some 11, op := _, type := _, pos := _, after := _, guard := _ }) rfl (fun K hK => ?_)
          go_simp
          obtain ⟨gb, hgg⟩ : ∃ x, y1.heap.size = x := ⟨_, rfl⟩
          obtain ⟨y2, hyy⟩ : ∃ x, y1.alloc (.cells zL.toArray 27) = x := ⟨_, rfl⟩
          have lc : Later y1 y2 := hyy ▸ Later.new _ _
          have HB := Lib.hid (show Blk y2 gb zL.toArray 27 from hyy ▸ Blk.new _ _ _ _ hgg.symm)
          have HGB := Lib.hid (show wr.heap.size ≤ gb from hgg ▸ Later.size hS)
          replace hS : (fun W : World => Later wr W) y2 := Later.trans hS lc
          have HV := Lib.hid (HV.out.later lc)
          try rw [hgg]
          unfold zL at hyy
          rw [hyy]
          refine hK _ _ hS fun wq hwq => ?_
          subst hwq
          clear hK lc hyy hgg
          (try simp only [Act.put, List.setIfInBounds_toArray, List.set_cons_zero, List.set_cons_succ])
          refine wpAnyK_all (rs := [13]) (by kernel_rfl) (by simp) (fun i hi => ?_)
          simp only [List.mem_cons, List.not_mem_nil, or_false] at hi
          subst hi
          refine stepK (o := { dst := some 10, op := _, type := _, pos := _, after := _, guard := _ }) rfl (fun K hK => ?_)
          go_simp
          obtain ⟨ga, hgg⟩ : ∃ x, y2.heap.size = x := ⟨_, rfl⟩
          obtain ⟨y3, hyy⟩ : ∃ x, y2.alloc (.cells zS.toArray 24) = x := ⟨_, rfl⟩
          have lc : Later y2 y3 := hyy ▸ Later.new _ _
          have HA := Lib.hid (show Blk y3 ga zS.toArray 24 from hyy ▸ Blk.new _ _ _ _ hgg.symm)
          have HGA := Lib.hid (show wr.heap.size ≤ ga from hgg ▸ Later.size hS)
          replace hS : (fun W : World => Later wr W) y3 := Later.trans hS lc
          have HV := Lib.hid (HV.out.later lc)
          have HB := Lib.hid (HB.out.later lc)
          try rw [hgg]
          unfold zS at hyy
          rw [hyy]
          refine hK _ _ hS fun wq hwq => ?_
          subst hwq
          clear hK lc hyy hgg
          (try simp only [Act.put, List.setIfInBounds_toArray, List.set_cons_zero, List.set_cons_succ])
          have hab : ga ≠ gb := ne_typ HA.out HB.out (by decide)
          refine wpAnyK_all (rs := [15]) (by kernel_rfl) (by simp) (fun i hi => ?_)
          simp only [List.mem_cons, List.not_mem_nil, or_false] at hi
          subst hi
          refine stepK (o := { dst := none, op := _, type := _, pos := _, after := _, guard := _ }) rfl (fun K hK => ?_)
          rw [if_pos (by rfl)]
          refine wp_store_mid 24 _ _ rfl ga 0 #[.slice VA vn vcp, .int .i64 vlast] rfl rfl (fun j hj => by rw [Nat.zero_add]; have hj2 : j < 2 := hj; exact ⟨by rw [cell_of_row y3 ga j _ _ _ HA.out, Array.getElem?_eq_getElem (by exact hj2)]; rfl, HA.out.frozen j⟩) (by kernel_rfl) (by simp [Value.oneCell']) ?_
          have hA2 := Blk.fill zS [.slice VA vn vcp, .int .i64 vlast] HA.out rfl
          have hB2 := HB.out.aside hab.symm 0 [.slice VA vn vcp, .int .i64 vlast]
          have hV2 := HV.out.fill HA.out (by decide) (by decide) 0 [.slice VA vn vcp, .int .i64 vlast]
          have hS : (fun W : World => Later wr W) (y3.setCells ga 0 [.slice VA vn vcp, .int .i64 vlast]) := Later.fill hS HGA.out 0 _
          refine hK _ _ hS fun wq hwq => ?_
          obtain ⟨z1, hz1⟩ : ∃ x, y3.setCells ga 0 [.slice VA vn vcp, .int .i64 vlast] = x := ⟨_, rfl⟩
          rw [hz1] at hA2 hB2 hV2 hS
          have hz2 : z1 = wq := hz1.symm.trans hwq
          subst hz2
          clear hK hwq hz1
          (try simp only [Act.put])
          refine wpAnyK_all (rs := [16]) (by kernel_rfl) (by simp) (fun i hi => ?_)
          simp only [List.mem_cons, List.not_mem_nil, or_false] at hi
          subst hi
          refine stepK (o := { dst := none, op := _, type := _, pos := _, after := _, guard := _ }) rfl (fun K hK => ?_)
          rw [if_pos (by rfl)]
          refine wp_store_mid 27 _ _ rfl gb 0 #[.int .i64 vsb, .int .i64 vpb, .int .i64 vparts, .slice VE ven vec] rfl rfl (fun j hj => by rw [Nat.zero_add]; have hj2 : j < 4 := hj; exact ⟨by rw [cell_of_row z1 gb j _ _ _ hB2, Array.getElem?_eq_getElem (by exact hj2)]; rfl, hB2.frozen j⟩) (by kernel_rfl) (by simp [Value.oneCell']) ?_
          have hB3 := Blk.fill zL [.int .i64 vsb, .int .i64 vpb, .int .i64 vparts, .slice VE ven vec] hB2 rfl
          have hA3 := hA2.aside hab 0 [.int .i64 vsb, .int .i64 vpb, .int .i64 vparts, .slice VE ven vec]
          have hV3 := hV2.fill hB2 (by decide) (by decide) 0 [.int .i64 vsb, .int .i64 vpb, .int .i64 vparts, .slice VE ven vec]
          have hS : (fun W : World => Later wr W) (z1.setCells gb 0 [.int .i64 vsb, .int .i64 vpb, .int .i64 vparts, .slice VE ven vec]) := Later.fill hS HGB.out 0 _
          refine hK _ _ hS fun wq hwq => ?_
          obtain ⟨z2, hz1⟩ : ∃ x, z1.setCells gb 0 [.int .i64 vsb, .int .i64 vpb, .int .i64 vparts, .slice VE ven vec] = x := ⟨_, rfl⟩
          rw [hz1] at hA3 hB3 hV3 hS
          have hz2 : z2 = wq := hz1.symm.trans hwq
          subst hz2
          clear hK hwq hz1 hA2 hB2 hV2
          (try simp only [Act.put])
          refine wpAnyK_take (fun _ => rfl) (fun _ _ _ h k => h.trans k) (fun _ _ h k => k ▸ h) (i := 17) (oi := { dst := some 12, op := _, type := _, pos := _, after := _, guard := _ }) (v := ?_) rfl (by kernel_rfl) (by kernel_rfl) (by kernel_rfl) (fun _ _ _ h => h) (Or.inl (Or.inl ⟨by rfl, ?_⟩)) hS ?_
          rotate_left
          focus ((intro w hSw; (try dsimp only at hSw); skip; go_simp); (try with_reducible rfl))
          intro wq hwq
          subst hwq
          (try simp only [Act.put, List.setIfInBounds_toArray, List.set_cons_zero, List.set_cons_succ])
          refine wpAnyK_done (by kernel_rfl) ?_ _
          go_wp2_with fail
          go_meet
          exact ⟨ga, gb, VA, vn, vcp, vlast, vsb, vpb, vparts, VE, ven, vec, vev, rfl, rfl, rfl, hV3, hA3, hB3, hab, HGA.out, HGB.out, hS⟩
      · refine stepK (o := { dst := some 10, op := _, type := _, pos := _, after := _, guard := _ }) rfl (fun K hK => ?_)
        go_simp
        obtain ⟨ga, hgg⟩ : ∃ x, y0.heap.size = x := ⟨_, rfl⟩
        obtain ⟨y1, hyy⟩ : ∃ x, y0.alloc (.cells zS.toArray 24) = x := ⟨_, rfl⟩
        have lc : Later y0 y1 := hyy ▸ Later.new _ _
        have HA := Lib.hid (show Blk y1 ga zS.toArray 24 from hyy ▸ Blk.new _ _ _ _ hgg.symm)
        have HGA := Lib.hid (show wr.heap.size ≤ ga from hgg ▸ Later.size hS)
        replace hS : (fun W : World => Later wr W) y1 := Later.trans hS lc
        try rw [hgg]
        unfold zS at hyy
        rw [hyy]
        refine hK _ _ hS fun wq hwq => ?_
        subst hwq
        clear hK lc hyy hgg
        (try simp only [Act.put, List.setIfInBounds_toArray, List.set_cons_zero, List.set_cons_succ])
        refine wpAnyK_all (rs := [8, 14]) (by kernel_rfl) (by simp) (fun i hi => ?_)
        simp only [List.mem_cons, List.not_mem_nil, or_false] at hi
        rcases hi with rfl | rfl
        · refine stepK (o := { dst := some 98, op := _, type := _, pos := _, after := _, guard := _ }) rfl (fun K hK => ?_)
          go_simp
          refine (HAP.out _ hS).mono ?_
          intro e y2 hap
          obtain ⟨VA, vn, vcp, vlast, vsb, vpb, vparts, VE, ven, vec, vev, rfl, hv, lc⟩ := hap.v (Later.size hS)
          have HV := Lib.hid hv
          replace hS : (fun W : World => Later wr W) y2 := Later.trans hS lc
          have HA := Lib.hid (HA.out.later lc)
          refine hK _ _ hS fun wq hwq => ?_
          subst hwq
          clear hK hap hv lc
          (try simp only [Act.put, List.setIfInBounds_toArray, List.set_cons_zero, List.set_cons_succ])
          refine wpAnyK_take (fun _ => rfl) (fun _ _ _ h k => h.trans k) (fun _ _ h k => k ▸ h) (i := 9) (oi := { dst := some 89, op := _, type := _, pos := _, after := _, guard := _ }) (v := ?_) rfl (by kernel_rfl) (by kernel_rfl) (by kernel_rfl) (fun _ _ _ h => h) (Or.inl (Or.inl ⟨by rfl, ?_⟩)) hS ?_
          rotate_left
          focus ((intro w hSw; (try dsimp only at hSw); skip; go_simp); (try with_reducible rfl))
          intro wq hwq
          subst hwq
          (try simp only [Act.put, List.setIfInBounds_toArray, List.set_cons_zero, List.set_cons_succ])
          refine wpAnyK_take (fun _ => rfl) (fun _ _ _ h k => h.trans k) (fun _ _ h k => k ▸ h) (i := 10) (oi := { dst := some 99, op := _, type := _, pos := _, after := _, guard := _ }) (v := ?_) rfl (by kernel_rfl) (by kernel_rfl) (by kernel_rfl) (fun _ _ _ h => h) (Or.inl (Or.inl ⟨by rfl, ?_⟩)) hS ?_
          rotate_left
          focus ((intro w hSw; (try dsimp only at hSw); skip; go_simp); (try with_reducible rfl))
          intro wq hwq
          subst hwq
          (try simp only [Act.put, List.setIfInBounds_toArray, List.set_cons_zero, List.set_cons_succ])
          refine wpAnyK_take (fun _ => rfl) (fun _ _ _ h k => h.trans k) (fun _ _ h k => k ▸ h) (i := 11) (oi := { dst := some 100, op := _, type := _, pos := _, after := _, guard := _ }) (v := ?_) rfl (by kernel_rfl) (by kernel_rfl) (by kernel_rfl) (fun _ _ _ h => h) (Or.inl (Or.inl ⟨by rfl, ?_⟩)) hS ?_
          rotate_left
          focus ((intro w hSw; (try dsimp only at hSw); skip; go_simp); (try with_reducible rfl))
          intro wq hwq
          subst hwq
          (try simp only [Act.put, List.setIfInBounds_toArray, List.set_cons_zero, List.set_cons_succ])
          refine wpAnyK_take (fun _ => rfl) (fun _ _ _ h k => h.trans k) (fun _ _ h k => k ▸ h) (i := 12) (oi := { dst := some 101, op := _, type := _, pos := _, after := _, guard := _ }) (v := ?_) rfl (by kernel_rfl) (by kernel_rfl) (by kernel_rfl) (fun _ _ _ h => h) (Or.inl (Or.inl ⟨by rfl, ?_⟩)) hS ?_
          rotate_left
          focus ((intro w hSw; (try dsimp only at hSw); skip; go_simp); (try with_reducible rfl))
          intro wq hwq
          subst hwq
          (try simp only [Act.put, List.setIfInBounds_toArray, List.set_cons_zero, List.set_cons_succ])
          refine wpAnyK_all (rs := [14]) (by kernel_rfl) (by simp) (fun i hi => ?_)
          simp only [List.mem_cons, List.not_mem_nil, or_false] at hi
          subst hi
          refine stepK (o := { dst := some 11, op := _, type := _, pos := _, after := _, guard := _ }) rfl (fun K hK => ?_)
          go_simp
          obtain ⟨gb, hgg⟩ : ∃ x, y2.heap.size = x := ⟨_, rfl⟩
          obtain ⟨y3, hyy⟩ : ∃ x, y2.alloc (.cells zL.toArray 27) = x := ⟨_, rfl⟩
          have lc : Later y2 y3 := hyy ▸ Later.new _ _
          have HB := Lib.hid (show Blk y3 gb zL.toArray 27 from hyy ▸ Blk.new _ _ _ _ hgg.symm)
          have HGB := Lib.hid (show wr.heap.size ≤ gb from hgg ▸ Later.size hS)
          replace hS : (fun W : World => Later wr W) y3 := Later.trans hS lc
          have HV := Lib.hid (HV.out.later lc)
          have HA := Lib.hid (HA.out.later lc)
          try rw [hgg]
          unfold zL at hyy
          rw [hyy]
          refine hK _ _ hS fun wq hwq => ?_
          subst hwq
          clear hK lc hyy hgg
          (try simp only [Act.put, List.setIfInBounds_toArray, List.set_cons_zero, List.set_cons_succ])
          have hab : ga ≠ gb := ne_typ HA.out HB.out (by decide)
          refine wpAnyK_all (rs := [15]) (by kernel_rfl) (by simp) (fun i hi => ?_)
          simp only [List.mem_cons, List.not_mem_nil, or_false] at hi
          subst hi
          refine stepK (o := { dst := none, op := _, type := _, pos := _, after := _, guard := _ }) rfl (fun K hK => ?_)
          rw [if_pos (by rfl)]
          refine wp_store_mid 24 _ _ rfl ga 0 #[.slice VA vn vcp, .int .i64 vlast] rfl rfl (fun j hj => by rw [Nat.zero_add]; have hj2 : j < 2 := hj; exact ⟨by rw [cell_of_row y3 ga j _ _ _ HA.out, Array.getElem?_eq_getElem (by exact hj2)]; rfl, HA.out.frozen j⟩) (by kernel_rfl) (by simp [Value.oneCell']) ?_
          have hA2 := Blk.fill zS [.slice VA vn vcp, .int .i64 vlast] HA.out rfl
          have hB2 := HB.out.aside hab.symm 0 [.slice VA vn vcp, .int .i64 vlast]
          have hV2 := HV.out.fill HA.out (by decide) (by decide) 0 [.slice VA vn vcp, .int .i64 vlast]
          have hS : (fun W : World => Later wr W) (y3.setCells ga 0 [.slice VA vn vcp, .int .i64 vlast]) := Later.fill hS HGA.out 0 _
          refine hK _ _ hS fun wq hwq => ?_
          obtain ⟨z1, hz1⟩ : ∃ x, y3.setCells ga 0 [.slice VA vn vcp, .int .i64 vlast] = x := ⟨_, rfl⟩
          rw [hz1] at hA2 hB2 hV2 hS
          have hz2 : z1 = wq := hz1.symm.trans hwq
          subst hz2
          clear hK hwq hz1
          (try simp only [Act.put])
          refine wpAnyK_all (rs := [16]) (by kernel_rfl) (by simp) (fun i hi => ?_)
          simp only [List.mem_cons, List.not_mem_nil, or_false] at hi
          subst hi
          refine stepK (o := { dst := none, op := _, type := _, pos := _, after := _, guard := _ }) rfl (fun K hK => ?_)
          rw [if_pos (by rfl)]
          refine wp_store_mid 27 _ _ rfl gb 0 #[.int .i64 vsb, .int .i64 vpb, .int .i64 vparts, .slice VE ven vec] rfl rfl (fun j hj => by rw [Nat.zero_add]; have hj2 : j < 4 := hj; exact ⟨by rw [cell_of_row z1 gb j _ _ _ hB2, Array.getElem?_eq_getElem (by exact hj2)]; rfl, hB2.frozen j⟩) (by kernel_rfl) (by simp [Value.oneCell']) ?_
          have hB3 := Blk.fill zL [.int .i64 vsb, .int .i64 vpb, .int .i64 vparts, .slice VE ven vec] hB2 rfl
          have hA3 := hA2.aside hab 0 [.int .i64 vsb, .int .i64 vpb, .int .i64 vparts, .slice VE ven vec]
          have hV3 := hV2.fill hB2 (by decide) (by decide) 0 [.int .i64 vsb, .int .i64 vpb, .int .i64 vparts, .slice VE ven vec]
          have hS : (fun W : World => Later wr W) (z1.setCells gb 0 [.int .i64 vsb, .int .i64 vpb, .int .i64 vparts, .slice VE ven vec]) := Later.fill hS HGB.out 0 _
          refine hK _ _ hS fun wq hwq => ?_
          obtain ⟨z2, hz1⟩ : ∃ x, z1.setCells gb 0 [.int .i64 vsb, .int .i64 vpb, .int .i64 vparts, .slice VE ven vec] = x := ⟨_, rfl⟩
          rw [hz1] at hA3 hB3 hV3 hS
          have hz2 : z2 = wq := hz1.symm.trans hwq
          subst hz2
          clear hK hwq hz1 hA2 hB2 hV2
          (try simp only [Act.put])
          refine wpAnyK_take (fun _ => rfl) (fun _ _ _ h k => h.trans k) (fun _ _ h k => k ▸ h) (i := 17) (oi := { dst := some 12, op := _, type := _, pos := _, after := _, guard := _ }) (v := ?_) rfl (by kernel_rfl) (by kernel_rfl) (by kernel_rfl) (fun _ _ _ h => h) (Or.inl (Or.inl ⟨by rfl, ?_⟩)) hS ?_
          rotate_left
          focus ((intro w hSw; (try dsimp only at hSw); skip; go_simp); (try with_reducible rfl))
          intro wq hwq
          subst hwq
          (try simp only [Act.put, List.setIfInBounds_toArray, List.set_cons_zero, List.set_cons_succ])
          refine wpAnyK_done (by kernel_rfl) ?_ _
          go_wp2_with fail
          go_meet
          exact ⟨ga, gb, VA, vn, vcp, vlast, vsb, vpb, vparts, VE, ven, vec, vev, rfl, rfl, rfl, hV3, hA3, hB3, hab, HGA.out, HGB.out, hS⟩
        · refine stepK (o := { dst := some 11, op := _, type := _, pos := _, after := _, guard := _ }) rfl (fun K hK => ?_)
          go_simp
          obtain ⟨gb, hgg⟩ : ∃ x, y1.heap.size = x := ⟨_, rfl⟩
          obtain ⟨y2, hyy⟩ : ∃ x, y1.alloc (.cells zL.toArray 27) = x := ⟨_, rfl⟩
          have lc : Later y1 y2 := hyy ▸ Later.new _ _
          have HB := Lib.hid (show Blk y2 gb zL.toArray 27 from hyy ▸ Blk.new _ _ _ _ hgg.symm)
          have HGB := Lib.hid (show wr.heap.size ≤ gb from hgg ▸ Later.size hS)
          replace hS : (fun W : World => Later wr W) y2 := Later.trans hS lc
          have HA := Lib.hid (HA.out.later lc)
          try rw [hgg]
          unfold zL at hyy
          rw [hyy]
          refine hK _ _ hS fun wq hwq => ?_
          subst hwq
          clear hK lc hyy hgg
          (try simp only [Act.put, List.setIfInBounds_toArray, List.set_cons_zero, List.set_cons_succ])
          refine wpAnyK_all (rs := [8]) (by kernel_rfl) (by simp) (fun i hi => ?_)
          simp only [List.mem_cons, List.not_mem_nil, or_false] at hi
          subst hi
          refine stepK (o := { dst := some 98, op := _, type := _, pos := _, after := _, guard := _ }) rfl (fun K hK => ?_)
          go_simp
          refine (HAP.out _ hS).mono ?_
          intro e y3 hap
          obtain ⟨VA, vn, vcp, vlast, vsb, vpb, vparts, VE, ven, vec, vev, rfl, hv, lc⟩ := hap.v (Later.size hS)
          have HV := Lib.hid hv
          replace hS : (fun W : World => Later wr W) y3 := Later.trans hS lc
          have HA := Lib.hid (HA.out.later lc)
          have HB := Lib.hid (HB.out.later lc)
          refine hK _ _ hS fun wq hwq => ?_
          subst hwq
          clear hK hap hv lc
          (try simp only [Act.put, List.setIfInBounds_toArray, List.set_cons_zero, List.set_cons_succ])
          refine wpAnyK_take (fun _ => rfl) (fun _ _ _ h k => h.trans k) (fun _ _ h k => k ▸ h) (i := 9) (oi := { dst := some 89, op := _, type := _, pos := _, after := _, guard := _ }) (v := ?_) rfl (by kernel_rfl) (by kernel_rfl) (by kernel_rfl) (fun _ _ _ h => h) (Or.inl (Or.inl ⟨by rfl, ?_⟩)) hS ?_
          rotate_left
          focus ((intro w hSw; (try dsimp only at hSw); skip; go_simp); (try with_reducible rfl))
          intro wq hwq
          subst hwq
          (try simp only [Act.put, List.setIfInBounds_toArray, List.set_cons_zero, List.set_cons_succ])
          refine wpAnyK_take (fun _ => rfl) (fun _ _ _ h k => h.trans k) (fun _ _ h k => k ▸ h) (i := 10) (oi := { dst := some 99, op := _, type := _, pos := _, after := _, guard := _ }) (v := ?_) rfl (by kernel_rfl) (by kernel_rfl) (by kernel_rfl) (fun _ _ _ h => h) (Or.inl (Or.inl ⟨by rfl, ?_⟩)) hS ?_
          rotate_left
          focus ((intro w hSw; (try dsimp only at hSw); skip; go_simp); (try with_reducible rfl))
          intro wq hwq
          subst hwq
          (try simp only [Act.put, List.setIfInBounds_toArray, List.set_cons_zero, List.set_cons_succ])
          refine wpAnyK_take (fun _ => rfl) (fun _ _ _ h k => h.trans k) (fun _ _ h k => k ▸ h) (i := 11) (oi := { dst := some 100, op := _, type := _, pos := _, after := _, guard := _ }) (v := ?_) rfl (by kernel_rfl) (by kernel_rfl) (by kernel_rfl) (fun _ _ _ h => h) (Or.inl (Or.inl ⟨by rfl, ?_⟩)) hS ?_
          rotate_left
          focus ((intro w hSw; (try dsimp only at hSw); skip; go_simp); (try with_reducible rfl))
          intro wq hwq
          subst hwq
          (try simp only [Act.put, List.setIfInBounds_toArray, List.set_cons_zero, List.set_cons_succ])
          refine wpAnyK_take (fun _ => rfl) (fun _ _ _ h k => h.trans k) (fun _ _ h k => k ▸ h) (i := 12) (oi := { dst := some 101, op := _, type := _, pos := _, after := _, guard := _ }) (v := ?_) rfl (by kernel_rfl) (by kernel_rfl) (by kernel_rfl) (fun _ _ _ h => h) (Or.inl (Or.inl ⟨by rfl, ?_⟩)) hS ?_
          rotate_left
          focus ((intro w hSw; (try dsimp only at hSw); skip; go_simp); (try with_reducible rfl))
          intro wq hwq
          subst hwq
          (try simp only [Act.put, List.setIfInBounds_toArray, List.set_cons_zero, List.set_cons_succ])
          have hab : ga ≠ gb := ne_typ HA.out HB.out (by decide)
          refine wpAnyK_all (rs := [15]) (by kernel_rfl) (by simp) (fun i hi => ?_)
          simp only [List.mem_cons, List.not_mem_nil, or_false] at hi
          subst hi
          refine stepK (o := { dst := none, op := _, type := _, pos := _, after := _, guard := _ }) rfl (fun K hK => ?_)
          rw [if_pos (by rfl)]
          refine wp_store_mid 24 _ _ rfl ga 0 #[.slice VA vn vcp, .int .i64 vlast] rfl rfl (fun j hj => by rw [Nat.zero_add]; have hj2 : j < 2 := hj; exact ⟨by rw [cell_of_row y3 ga j _ _ _ HA.out, Array.getElem?_eq_getElem (by exact hj2)]; rfl, HA.out.frozen j⟩) (by kernel_rfl) (by simp [Value.oneCell']) ?_
          have hA2 := Blk.fill zS [.slice VA vn vcp, .int .i64 vlast] HA.out rfl
          have hB2 := HB.out.aside hab.symm 0 [.slice VA vn vcp, .int .i64 vlast]
          have hV2 := HV.out.fill HA.out (by decide) (by decide) 0 [.slice VA vn vcp, .int .i64 vlast]
          have hS : (fun W : World => Later wr W) (y3.setCells ga 0 [.slice VA vn vcp, .int .i64 vlast]) := Later.fill hS HGA.out 0 _
          refine hK _ _ hS fun wq hwq => ?_
          obtain ⟨z1, hz1⟩ : ∃ x, y3.setCells ga 0 [.slice VA vn vcp, .int .i64 vlast] = x := ⟨_, rfl⟩
          rw [hz1] at hA2 hB2 hV2 hS
          have hz2 : z1 = wq := hz1.symm.trans hwq
          subst hz2
          clear hK hwq hz1
          (try simp only [Act.put])
          refine wpAnyK_all (rs := [16]) (by kernel_rfl) (by simp) (fun i hi => ?_)
          simp only [List.mem_cons, List.not_mem_nil, or_false] at hi
          subst hi
          refine stepK (o := { dst := none, op := _, type := _, pos := _, after := _, guard := _ }) rfl (fun K hK => ?_)
          rw [if_pos (by rfl)]
          refine wp_store_mid 27 _ _ rfl gb 0 #[.int .i64 vsb, .int .i64 vpb, .int .i64 vparts, .slice VE ven vec] rfl rfl (fun j hj => by rw [Nat.zero_add]; have hj2 : j < 4 := hj; exact ⟨by rw [cell_of_row z1 gb j _ _ _ hB2, Array.getElem?_eq_getElem (by exact hj2)]; rfl, hB2.frozen j⟩) (by kernel_rfl) (by simp [Value.oneCell']) ?_
          have hB3 := Blk.fill zL [.int .i64 vsb, .int .i64 vpb, .int .i64 vparts, .slice VE ven vec] hB2 rfl
          have hA3 := hA2.aside hab 0 [.int .i64 vsb, .int .i64 vpb, .int .i64 vparts, .slice VE ven vec]
          have hV3 := hV2.fill hB2 (by decide) (by decide) 0 [.int .i64 vsb, .int .i64 vpb, .int .i64 vparts, .slice VE ven vec]
          have hS : (fun W : World => Later wr W) (z1.setCells gb 0 [.int .i64 vsb, .int .i64 vpb, .int .i64 vparts, .slice VE ven vec]) := Later.fill hS HGB.out 0 _
          refine hK _ _ hS fun wq hwq => ?_
          obtain ⟨z2, hz1⟩ : ∃ x, z1.setCells gb 0 [.int .i64 vsb, .int .i64 vpb, .int .i64 vparts, .slice VE ven vec] = x := ⟨_, rfl⟩
          rw [hz1] at hA3 hB3 hV3 hS
          have hz2 : z2 = wq := hz1.symm.trans hwq
          subst hz2
          clear hK hwq hz1 hA2 hB2 hV2
          (try simp only [Act.put])
          refine wpAnyK_take (fun _ => rfl) (fun _ _ _ h k => h.trans k) (fun _ _ h k => k ▸ h) (i := 17) (oi := { dst := some 12, op := _, type := _, pos := _, after := _, guard := _ }) (v := ?_) rfl (by kernel_rfl) (by kernel_rfl) (by kernel_rfl) (fun _ _ _ h => h) (Or.inl (Or.inl ⟨by rfl, ?_⟩)) hS ?_
          rotate_left
          focus ((intro w hSw; (try dsimp only at hSw); skip; go_simp); (try with_reducible rfl))
          intro wq hwq
          subst hwq
          (try simp only [Act.put, List.setIfInBounds_toArray, List.set_cons_zero, List.set_cons_succ])
          refine wpAnyK_done (by kernel_rfl) ?_ _
          go_wp2_with fail
          go_meet
          exact ⟨ga, gb, VA, vn, vcp, vlast, vsb, vpb, vparts, VE, ven, vec, vev, rfl, rfl, rfl, hV3, hA3, hB3, hab, HGA.out, HGB.out, hS⟩
      · refine stepK (o := { dst := some 11, op := _, type := _, pos := _, after := _, guard := _ }) rfl (fun K hK => ?_)
        go_simp
        obtain ⟨gb, hgg⟩ : ∃ x, y0.heap.size = x := ⟨_, rfl⟩
        obtain ⟨y1, hyy⟩ : ∃ x, y0.alloc (.cells zL.toArray 27) = x := ⟨_, rfl⟩
        have lc : Later y0 y1 := hyy ▸ Later.new _ _
        have HB := Lib.hid (show Blk y1 gb zL.toArray 27 from hyy ▸ Blk.new _ _ _ _ hgg.symm)
        have HGB := Lib.hid (show wr.heap.size ≤ gb from hgg ▸ Later.size hS)
        replace hS : (fun W : World => Later wr W) y1 := Later.trans hS lc
        try rw [hgg]
        unfold zL at hyy
        rw [hyy]
        refine hK _ _ hS fun wq hwq => ?_
        subst hwq
        clear hK lc hyy hgg
        (try simp only [Act.put, List.setIfInBounds_toArray, List.set_cons_zero, List.set_cons_succ])
        refine wpAnyK_all (rs := [8, 13]) (by kernel_rfl) (by simp) (fun i hi => ?_)
        simp only [List.mem_cons, List.not_mem_nil, or_false] at hi
        rcases hi with rfl | rfl
        · refine stepK (o := { dst := some 98, op := _, type := _, pos := _, after := _, guard := _ }) rfl (fun K hK => ?_)
          go_simp
          refine (HAP.out _ hS).mono ?_
          intro e y2 hap
          obtain ⟨VA, vn, vcp, vlast, vsb, vpb, vparts, VE, ven, vec, vev, rfl, hv, lc⟩ := hap.v (Later.size hS)
          have HV := Lib.hid hv
          replace hS : (fun W : World => Later wr W) y2 := Later.trans hS lc
          have HB := Lib.hid (HB.out.later lc)
          refine hK _ _ hS fun wq hwq => ?_
          subst hwq
          clear hK hap hv lc
          (try simp only [Act.put, List.setIfInBounds_toArray, List.set_cons_zero, List.set_cons_succ])
          refine wpAnyK_take (fun _ => rfl) (fun _ _ _ h k => h.trans k) (fun _ _ h k => k ▸ h) (i := 9) (oi := { dst := some 89, op := _, type := _, pos := _, after := _, guard := _ }) (v := ?_) rfl (by kernel_rfl) (by kernel_rfl) (by kernel_rfl) (fun _ _ _ h => h) (Or.inl (Or.inl ⟨by rfl, ?_⟩)) hS ?_
          rotate_left
          focus ((intro w hSw; (try dsimp only at hSw); skip; go_simp); (try with_reducible rfl))
          intro wq hwq
          subst hwq
          (try simp only [Act.put, List.setIfInBounds_toArray, List.set_cons_zero, List.set_cons_succ])
          refine wpAnyK_take (fun _ => rfl) (fun _ _ _ h k => h.trans k) (fun _ _ h k => k ▸ h) (i := 10) (oi := { dst := some 99, op := _, type := _, pos := _, after := _, guard := _ }) (v := ?_) rfl (by kernel_rfl) (by kernel_rfl) (by kernel_rfl) (fun _ _ _ h => h) (Or.inl (Or.inl ⟨by rfl, ?_⟩)) hS ?_
          rotate_left
          focus ((intro w hSw; (try dsimp only at hSw); skip; go_simp); (try with_reducible rfl))
          intro wq hwq
          subst hwq
          (try simp only [Act.put, List.setIfInBounds_toArray, List.set_cons_zero, List.set_cons_succ])
          refine wpAnyK_take (fun _ => rfl) (fun _ _ _ h k => h.trans k) (fun _ _ h k => k ▸ h) (i := 11) (oi := { dst := some 100, op := _, type := _, pos := _, after := _, guard := _ }) (v := ?_) rfl (by kernel_rfl) (by kernel_rfl) (by kernel_rfl) (fun _ _ _ h => h) (Or.inl (Or.inl ⟨by rfl, ?_⟩)) hS ?_
          rotate_left
          focus ((intro w hSw; (try dsimp only at hSw); skip; go_simp); (try with_reducible rfl))
          intro wq hwq
          subst hwq
          (try simp only [Act.put, List.setIfInBounds_toArray, List.set_cons_zero, List.set_cons_succ])
          refine wpAnyK_take (fun _ => rfl) (fun _ _ _ h k => h.trans k) (fun _ _ h k => k ▸ h) (i := 12) (oi := { dst := some 101, op := _, type := _, pos := _, after := _, guard := _ }) (v := ?_) rfl (by kernel_rfl) (by kernel_rfl) (by kernel_rfl) (fun _ _ _ h => h) (Or.inl (Or.inl ⟨by rfl, ?_⟩)) hS ?_
          rotate_left
          focus ((intro w hSw; (try dsimp only at hSw); skip; go_simp); (try with_reducible rfl))
          intro wq hwq
          subst hwq
          (try simp only [Act.put, List.setIfInBounds_toArray, List.set_cons_zero, List.set_cons_succ])
          refine wpAnyK_all (rs := [13]) (by kernel_rfl) (by simp) (fun i hi => ?_)
          simp only [List.mem_cons, List.not_mem_nil, or_false] at hi
          subst hi
          refine stepK (o := { dst := some 10, op := _, type := _, pos := _, after := _, guard := _ }) rfl (fun K hK => ?_)
          go_simp
          obtain ⟨ga, hgg⟩ : ∃ x, y2.heap.size = x := ⟨_, rfl⟩
          obtain ⟨y3, hyy⟩ : ∃ x, y2.alloc (.cells zS.toArray 24) = x := ⟨_, rfl⟩
          have lc : Later y2 y3 := hyy ▸ Later.new _ _
          have HA := Lib.hid (show Blk y3 ga zS.toArray 24 from hyy ▸ Blk.new _ _ _ _ hgg.symm)
          have HGA := Lib.hid (show wr.heap.size ≤ ga from hgg ▸ Later.size hS)
          replace hS : (fun W : World => Later wr W) y3 := Later.trans hS lc
          have HV := Lib.hid (HV.out.later lc)
          have HB := Lib.hid (HB.out.later lc)
          try rw [hgg]
          unfold zS at hyy
          rw [hyy]
          refine hK _ _ hS fun wq hwq => ?_
          subst hwq
          clear hK lc hyy hgg
          (try simp only [Act.put, List.setIfInBounds_toArray, List.set_cons_zero, List.set_cons_succ])
          have hab : ga ≠ gb := ne_typ HA.out HB.out (by decide)
          refine wpAnyK_all (rs := [15]) (by kernel_rfl) (by simp) (fun i hi => ?_)
          simp only [List.mem_cons, List.not_mem_nil, or_false] at hi
          subst hi
          refine stepK (o := { dst := none, op := _, type := _, pos := _, after := _, guard := _ }) rfl (fun K hK => ?_)
          rw [if_pos (by rfl)]
          refine wp_store_mid 24 _ _ rfl ga 0 #[.slice VA vn vcp, .int .i64 vlast] rfl rfl (fun j hj => by rw [Nat.zero_add]; have hj2 : j < 2 := hj; exact ⟨by rw [cell_of_row y3 ga j _ _ _ HA.out, Array.getElem?_eq_getElem (by exact hj2)]; rfl, HA.out.frozen j⟩) (by kernel_rfl) (by simp [Value.oneCell']) ?_
          have hA2 := Blk.fill zS [.slice VA vn vcp, .int .i64 vlast] HA.out rfl
          have hB2 := HB.out.aside hab.symm 0 [.slice VA vn vcp, .int .i64 vlast]
          have hV2 := HV.out.fill HA.out (by decide) (by decide) 0 [.slice VA vn vcp, .int .i64 vlast]
          have hS : (fun W : World => Later wr W) (y3.setCells ga 0 [.slice VA vn vcp, .int .i64 vlast]) := Later.fill hS HGA.out 0 _
          refine hK _ _ hS fun wq hwq => ?_
          obtain ⟨z1, hz1⟩ : ∃ x, y3.setCells ga 0 [.slice VA vn vcp, .int .i64 vlast] = x := ⟨_, rfl⟩
          rw [hz1] at hA2 hB2 hV2 hS
          have hz2 : z1 = wq := hz1.symm.trans hwq
          subst hz2
          clear hK hwq hz1
          (try simp only [Act.put])
          refine wpAnyK_all (rs := [16]) (by kernel_rfl) (by simp) (fun i hi => ?_)
          simp only [List.mem_cons, List.not_mem_nil, or_false] at hi
          subst hi
          refine stepK (o := { dst := none, op := _, type := _, pos := _, after := _, guard := _ }) rfl (fun K hK => ?_)
          rw [if_pos (by rfl)]
          refine wp_store_mid 27 _ _ rfl gb 0 #[.int .i64 vsb, .int .i64 vpb, .int .i64 vparts, .slice VE ven vec] rfl rfl (fun j hj => by rw [Nat.zero_add]; have hj2 : j < 4 := hj; exact ⟨by rw [cell_of_row z1 gb j _ _ _ hB2, Array.getElem?_eq_getElem (by exact hj2)]; rfl, hB2.frozen j⟩) (by kernel_rfl) (by simp [Value.oneCell']) ?_
          have hB3 := Blk.fill zL [.int .i64 vsb, .int .i64 vpb, .int .i64 vparts, .slice VE ven vec] hB2 rfl
          have hA3 := hA2.aside hab 0 [.int .i64 vsb, .int .i64 vpb, .int .i64 vparts, .slice VE ven vec]
          have hV3 := hV2.fill hB2 (by decide) (by decide) 0 [.int .i64 vsb, .int .i64 vpb, .int .i64 vparts, .slice VE ven vec]
          have hS : (fun W : World => Later wr W) (z1.setCells gb 0 [.int .i64 vsb, .int .i64 vpb, .int .i64 vparts, .slice VE ven vec]) := Later.fill hS HGB.out 0 _
          refine hK _ _ hS fun wq hwq => ?_
          obtain ⟨z2, hz1⟩ : ∃ x, z1.setCells gb 0 [.int .i64 vsb, .int .i64 vpb, .int .i64 vparts, .slice VE ven vec] = x := ⟨_, rfl⟩
          rw [hz1] at hA3 hB3 hV3 hS
          have hz2 : z2 = wq := hz1.symm.trans hwq
          subst hz2
          clear hK hwq hz1 hA2 hB2 hV2
          (try simp only [Act.put])
          refine wpAnyK_take (fun _ => rfl) (fun _ _ _ h k => h.trans k) (fun _ _ h k => k ▸ h) (i := 17) (oi := { dst := some 12, op := _, type := _, pos := _, after := _, guard := _ }) (v := ?_) rfl (by kernel_rfl) (by kernel_rfl) (by kernel_rfl) (fun _ _ _ h => h) (Or.inl (Or.inl ⟨by rfl, ?_⟩)) hS ?_
          rotate_left
          focus ((intro w hSw; (try dsimp only at hSw); skip; go_simp); (try with_reducible rfl))
          intro wq hwq
          subst hwq
          (try simp only [Act.put, List.setIfInBounds_toArray, List.set_cons_zero, List.set_cons_succ])
          refine wpAnyK_done (by kernel_rfl) ?_ _
          go_wp2_with fail
          go_meet
          exact ⟨ga, gb, VA, vn, vcp, vlast, vsb, vpb, vparts, VE, ven, vec, vev, rfl, rfl, rfl, hV3, hA3, hB3, hab, HGA.out, HGB.out, hS⟩
        · refine stepK (o := { dst := some 10, op := _, type := _, pos := _, after := _, guard := _ }) rfl (fun K hK => ?_)
          go_simp
          obtain ⟨ga, hgg⟩ : ∃ x, y1.heap.size = x := ⟨_, rfl⟩
          obtain ⟨y2, hyy⟩ : ∃ x, y1.alloc (.cells zS.toArray 24) = x := ⟨_, rfl⟩
          have lc : Later y1 y2 := hyy ▸ Later.new _ _
          have HA := Lib.hid (show Blk y2 ga zS.toArray 24 from hyy ▸ Blk.new _ _ _ _ hgg.symm)
          have HGA := Lib.hid (show wr.heap.size ≤ ga from hgg ▸ Later.size hS)
          replace hS : (fun W : World => Later wr W) y2 := Later.trans hS lc
          have HB := Lib.hid (HB.out.later lc)
          try rw [hgg]
          unfold zS at hyy
          rw [hyy]
          refine hK _ _ hS fun wq hwq => ?_
          subst hwq
          clear hK lc hyy hgg
          (try simp only [Act.put, List.setIfInBounds_toArray, List.set_cons_zero, List.set_cons_succ])
          refine wpAnyK_all (rs := [8]) (by kernel_rfl) (by simp) (fun i hi => ?_)
          simp only [List.mem_cons, List.not_mem_nil, or_false] at hi
          subst hi
          refine stepK (o := { dst := some 98, op := _, type := _, pos := _, after := _, guard := _ }) rfl (fun K hK => ?_)
          go_simp
          refine (HAP.out _ hS).mono ?_
          intro e y3 hap
          obtain ⟨VA, vn, vcp, vlast, vsb, vpb, vparts, VE, ven, vec, vev, rfl, hv, lc⟩ := hap.v (Later.size hS)
          have HV := Lib.hid hv
          replace hS : (fun W : World => Later wr W) y3 := Later.trans hS lc
          have HA := Lib.hid (HA.out.later lc)
          have HB := Lib.hid (HB.out.later lc)
          refine hK _ _ hS fun wq hwq => ?_
          subst hwq
          clear hK hap hv lc
          (try simp only [Act.put, List.setIfInBounds_toArray, List.set_cons_zero, List.set_cons_succ])
          refine wpAnyK_take (fun _ => rfl) (fun _ _ _ h k => h.trans k) (fun _ _ h k => k ▸ h) (i := 9) (oi := { dst := some 89, op := _, type := _, pos := _, after := _, guard := _ }) (v := ?_) rfl (by kernel_rfl) (by kernel_rfl) (by kernel_rfl) (fun _ _ _ h => h) (Or.inl (Or.inl ⟨by rfl, ?_⟩)) hS ?_
          rotate_left
          focus ((intro w hSw; (try dsimp only at hSw); skip; go_simp); (try with_reducible rfl))
          intro wq hwq
          subst hwq
          (try simp only [Act.put, List.setIfInBounds_toArray, List.set_cons_zero, List.set_cons_succ])
          refine wpAnyK_take (fun _ => rfl) (fun _ _ _ h k => h.trans k) (fun _ _ h k => k ▸ h) (i := 10) (oi := { dst := some 99, op := _, type := _, pos := _, after := _, guard := _ }) (v := ?_) rfl (by kernel_rfl) (by kernel_rfl) (by kernel_rfl) (fun _ _ _ h => h) (Or.inl (Or.inl ⟨by rfl, ?_⟩)) hS ?_
          rotate_left
          focus ((intro w hSw; (try dsimp only at hSw); skip; go_simp); (try with_reducible rfl))
          intro wq hwq
          subst hwq
          (try simp only [Act.put, List.setIfInBounds_toArray, List.set_cons_zero, List.set_cons_succ])
          refine wpAnyK_take (fun _ => rfl) (fun _ _ _ h k => h.trans k) (fun _ _ h k => k ▸ h) (i := 11) (oi := { dst := some 100, op := _, type := _, pos := _, after := _, guard := _ }) (v := ?_) rfl (by kernel_rfl) (by kernel_rfl) (by kernel_rfl) (fun _ _ _ h => h) (Or.inl (Or.inl ⟨by rfl, ?_⟩)) hS ?_
          rotate_left
          focus ((intro w hSw; (try dsimp only at hSw); skip; go_simp); (try with_reducible rfl))
          intro wq hwq
          subst hwq
          (try simp only [Act.put, List.setIfInBounds_toArray, List.set_cons_zero, List.set_cons_succ])
          refine wpAnyK_take (fun _ => rfl) (fun _ _ _ h k => h.trans k) (fun _ _ h k => k ▸ h) (i := 12) (oi := { dst := some 101, op := _, type := _, pos := _, after := _, guard := _ }) (v := ?_) rfl (by kernel_rfl) (by kernel_rfl) (by kernel_rfl) (fun _ _ _ h => h) (Or.inl (Or.inl ⟨by rfl, ?_⟩)) hS ?_
          rotate_left
          focus ((intro w hSw; (try dsimp only at hSw); skip; go_simp); (try with_reducible rfl))
          intro wq hwq
          subst hwq
          (try simp only [Act.put, List.setIfInBounds_toArray, List.set_cons_zero, List.set_cons_succ])
          have hab : ga ≠ gb := ne_typ HA.out HB.out (by decide)
          refine wpAnyK_all (rs := [15]) (by kernel_rfl) (by simp) (fun i hi => ?_)
          simp only [List.mem_cons, List.not_mem_nil, or_false] at hi
          subst hi
          refine stepK (o := { dst := none, op := _, type := _, pos := _, after := _, guard := _ }) rfl (fun K hK => ?_)
          rw [if_pos (by rfl)]
          refine wp_store_mid 24 _ _ rfl ga 0 #[.slice VA vn vcp, .int .i64 vlast] rfl rfl (fun j hj => by rw [Nat.zero_add]; have hj2 : j < 2 := hj; exact ⟨by rw [cell_of_row y3 ga j _ _ _ HA.out, Array.getElem?_eq_getElem (by exact hj2)]; rfl, HA.out.frozen j⟩) (by kernel_rfl) (by simp [Value.oneCell']) ?_
          have hA2 := Blk.fill zS [.slice VA vn vcp, .int .i64 vlast] HA.out rfl
          have hB2 := HB.out.aside hab.symm 0 [.slice VA vn vcp, .int .i64 vlast]
          have hV2 := HV.out.fill HA.out (by decide) (by decide) 0 [.slice VA vn vcp, .int .i64 vlast]
          have hS : (fun W : World => Later wr W) (y3.setCells ga 0 [.slice VA vn vcp, .int .i64 vlast]) := Later.fill hS HGA.out 0 _
          refine hK _ _ hS fun wq hwq => ?_
          obtain ⟨z1, hz1⟩ : ∃ x, y3.setCells ga 0 [.slice VA vn vcp, .int .i64 vlast] = x := ⟨_, rfl⟩
          rw [hz1] at hA2 hB2 hV2 hS
          have hz2 : z1 = wq := hz1.symm.trans hwq
          subst hz2
          clear hK hwq hz1
          (try simp only [Act.put])
          refine wpAnyK_all (rs := [16]) (by kernel_rfl) (by simp) (fun i hi => ?_)
          simp only [List.mem_cons, List.not_mem_nil, or_false] at hi
          subst hi
          refine stepK (o := { dst := none, op := _, type := _, pos := _, after := _, guard := _ }) rfl (fun K hK => ?_)
          rw [if_pos (by rfl)]
          refine wp_store_mid 27 _ _ rfl gb 0 #[.int .i64 vsb, .int .i64 vpb, .int .i64 vparts, .slice VE ven vec] rfl rfl (fun j hj => by rw [Nat.zero_add]; have hj2 : j < 4 := hj; exact ⟨by rw [cell_of_row z1 gb j _ _ _ hB2, Array.getElem?_eq_getElem (by exact hj2)]; rfl, hB2.frozen j⟩) (by kernel_rfl) (by simp [Value.oneCell']) ?_
          have hB3 := Blk.fill zL [.int .i64 vsb, .int .i64 vpb, .int .i64 vparts, .slice VE ven vec] hB2 rfl
          have hA3 := hA2.aside hab 0 [.int .i64 vsb, .int .i64 vpb, .int .i64 vparts, .slice VE ven vec]
          have hV3 := hV2.fill hB2 (by decide) (by decide) 0 [.int .i64 vsb, .int .i64 vpb, .int .i64 vparts, .slice VE ven vec]
          have hS : (fun W : World => Later wr W) (z1.setCells gb 0 [.int .i64 vsb, .int .i64 vpb, .int .i64 vparts, .slice VE ven vec]) := Later.fill hS HGB.out 0 _
          refine hK _ _ hS fun wq hwq => ?_
          obtain ⟨z2, hz1⟩ : ∃ x, z1.setCells gb 0 [.int .i64 vsb, .int .i64 vpb, .int .i64 vparts, .slice VE ven vec] = x := ⟨_, rfl⟩
          rw [hz1] at hA3 hB3 hV3 hS
          have hz2 : z2 = wq := hz1.symm.trans hwq
          subst hz2
          clear hK hwq hz1 hA2 hB2 hV2
          (try simp only [Act.put])
          refine wpAnyK_take (fun _ => rfl) (fun _ _ _ h k => h.trans k) (fun _ _ h k => k ▸ h) (i := 17) (oi := { dst := some 12, op := _, type := _, pos := _, after := _, guard := _ }) (v := ?_) rfl (by kernel_rfl) (by kernel_rfl) (by kernel_rfl) (fun _ _ _ h => h) (Or.inl (Or.inl ⟨by rfl, ?_⟩)) hS ?_
          rotate_left
          focus ((intro w hSw; (try dsimp only at hSw); skip; go_simp); (try with_reducible rfl))
          intro wq hwq
          subst hwq
          (try simp only [Act.put, List.setIfInBounds_toArray, List.set_cons_zero, List.set_cons_succ])
          refine wpAnyK_done (by kernel_rfl) ?_ _
          go_wp2_with fail
          go_meet
          exact ⟨ga, gb, VA, vn, vcp, vlast, vsb, vpb, vparts, VE, ven, vec, vev, rfl, rfl, rfl, hV3, hA3, hB3, hab, HGA.out, HGB.out, hS⟩
    case rest =>
    obtain ⟨g1, g2, VA, vn1, cp1, la1, sb1, pb1, pa1, VE, en1, ec1, e1, rfl, rfl, rfl, hv, hA, hB, hne, hg1, hg2, lx⟩ := hcut
    rcases hv with ⟨kk, hkk2, -⟩ | ⟨s', gv1, ge1, hs', rfl, rfl, rfl, rfl, rfl, rfl, rfl, rfl, rfl, o1, o2, -⟩
    · rw [HS1.out] at hkk2; cases hkk2
    have hs1' := HS1.out
    rw [hs'] at hs1'
    injection hs1' with hs1'
    subst hs1'
    have HA1 := Lib.hid hA
    have HB1 := Lib.hid hB
    have O1 := Lib.hid (Has.ownG o1)
    have O2 := Lib.hid (Has.ownG o2)
    have HCB1 := Lib.hid (HCB.out.later lx)
    have HBB1 := Lib.hid (HBB.out.later lx)
    have HLT1 := Lib.hid (HLT.out.trans lx)
    have HLX := Lib.hid lx
    clear hA hB hne hg1 hg2 lx o1 o2 hs' HAP HS1 HCB HBB
    have HAP := Lib.hid (fun (W : World) (l : Later wc W) => show Calls Tryd.prog 14 #[.agg #[.slice (some ⟨gv1, 0, none⟩) s'.1.length cp1, .int .i64 s'.2.1], .agg #[.int .i64 s'.2.2.sb, .int .i64 s'.2.2.pb, .int .i64 s'.2.2.parts, .slice (some ⟨ge1, 0, none⟩) s'.2.2.enc.length ec1], .agg #[.int .i64 cb.kind, .int .i64 cb.col, .string cb.name, .int .i64 cb.typ, .int .i64 cb.val.1, .int .i64 cb.val.2.1, .string cb.val.2.2, .int .u8 cb.sep, .int .i64 cb.num]] W (ApP s' cb W) from schApply_any (some ⟨gv1, 0, none⟩) (some ⟨ge1, 0, none⟩) cp1 ec1 s' cb W f (HS.out.later (HLT1.out.trans l)) (H3.out.later (HLT1.out.trans l)) (O1.out.later l) (O2.out.later l) HN1.out.1 HN1.out.2 HSM1.out HNB.out (fun h => by cases h) (fun h => by cases h))
    go_upto_region 12 with fail
    go_cut [13, 14, 15] from 102 to 114 (fun pv qv ev wx => ResP s' cb wc pv qv ev wx)
    case first => as_aux_lemma =>
      refine wp_region_K (S := (fun W : World => Later wc W)) (R := fun a b => a = b) (fun _ => rfl) (by kernel_rfl) ?_
      obtain ⟨y0, hy0⟩ : ∃ x, wc.drew = x := ⟨_, rfl⟩
      have hS : (fun W : World => Later wc W) y0 := hy0 ▸ (Later.refl wc).drew
      rw [hy0]
      clear hy0
      refine wpAnyK_take (fun _ => rfl) (fun _ _ _ h k => h.trans k) (fun _ _ h k => k ▸ h) (i := 0) (oi := { dst := some 103, op := _, type := _, pos := _, after := _, guard := _ }) (v := ?_) rfl (by kernel_rfl) (by kernel_rfl) (by kernel_rfl) (fun _ _ _ h => h) (Or.inl (Or.inl ⟨by rfl, ?_⟩)) hS ?_
      rotate_left
      focus ((intro w hSw; (try dsimp only at hSw); have e0 := (HA1.out.later hSw).cell 0 _ rfl; have e1 := (HA1.out.later hSw).cell 1 _ rfl; have d0 := (HB1.out.later hSw).cell 0 _ rfl; have d1 := (HB1.out.later hSw).cell 1 _ rfl; have d2 := (HB1.out.later hSw).cell 2 _ rfl; have d3 := (HB1.out.later hSw).cell 3 _ rfl; have cb := (HCB1.out.later hSw).out; have q0 := (HBB1.out.later hSw).cell 9 _ rfl; have q1 := (HBB1.out.later hSw).cell 10 _ rfl; have q2 := (HBB1.out.later hSw).cell 11 _ rfl; have q3 := (HBB1.out.later hSw).cell 12 _ rfl; have q4 := (HBB1.out.later hSw).cell 13 _ rfl; have q5 := (HBB1.out.later hSw).cell 14 _ rfl; have q6 := (HBB1.out.later hSw).cell 15 _ rfl; have q7 := (HBB1.out.later hSw).cell 16 _ rfl; have q8 := (HBB1.out.later hSw).cell 17 _ rfl; go_simp); (try with_reducible rfl))
      intro wq hwq
      subst hwq
      (try simp only [Act.put, List.setIfInBounds_toArray, List.set_cons_zero, List.set_cons_succ])
      refine wpAnyK_take (fun _ => rfl) (fun _ _ _ h k => h.trans k) (fun _ _ h k => k ▸ h) (i := 1) (oi := { dst := some 104, op := _, type := _, pos := _, after := _, guard := _ }) (v := ?_) rfl (by kernel_rfl) (by kernel_rfl) (by kernel_rfl) (fun _ _ _ h => h) (Or.inl (Or.inl ⟨by rfl, ?_⟩)) hS ?_
      rotate_left
      focus ((intro w hSw; (try dsimp only at hSw); have e0 := (HA1.out.later hSw).cell 0 _ rfl; have e1 := (HA1.out.later hSw).cell 1 _ rfl; have d0 := (HB1.out.later hSw).cell 0 _ rfl; have d1 := (HB1.out.later hSw).cell 1 _ rfl; have d2 := (HB1.out.later hSw).cell 2 _ rfl; have d3 := (HB1.out.later hSw).cell 3 _ rfl; have cb := (HCB1.out.later hSw).out; have q0 := (HBB1.out.later hSw).cell 9 _ rfl; have q1 := (HBB1.out.later hSw).cell 10 _ rfl; have q2 := (HBB1.out.later hSw).cell 11 _ rfl; have q3 := (HBB1.out.later hSw).cell 12 _ rfl; have q4 := (HBB1.out.later hSw).cell 13 _ rfl; have q5 := (HBB1.out.later hSw).cell 14 _ rfl; have q6 := (HBB1.out.later hSw).cell 15 _ rfl; have q7 := (HBB1.out.later hSw).cell 16 _ rfl; have q8 := (HBB1.out.later hSw).cell 17 _ rfl; go_simp); (try with_reducible rfl))
      intro wq hwq
      subst hwq
      (try simp only [Act.put, List.setIfInBounds_toArray, List.set_cons_zero, List.set_cons_succ])
      refine wpAnyK_take (fun _ => rfl) (fun _ _ _ h k => h.trans k) (fun _ _ h k => k ▸ h) (i := 2) (oi := { dst := some 105, op := _, type := _, pos := _, after := _, guard := _ }) (v := ?_) rfl (by kernel_rfl) (by kernel_rfl) (by kernel_rfl) (fun _ _ _ h => h) (Or.inl (Or.inl ⟨by rfl, ?_⟩)) hS ?_
      rotate_left
      focus ((intro w hSw; (try dsimp only at hSw); have e0 := (HA1.out.later hSw).cell 0 _ rfl; have e1 := (HA1.out.later hSw).cell 1 _ rfl; have d0 := (HB1.out.later hSw).cell 0 _ rfl; have d1 := (HB1.out.later hSw).cell 1 _ rfl; have d2 := (HB1.out.later hSw).cell 2 _ rfl; have d3 := (HB1.out.later hSw).cell 3 _ rfl; have cb := (HCB1.out.later hSw).out; have q0 := (HBB1.out.later hSw).cell 9 _ rfl; have q1 := (HBB1.out.later hSw).cell 10 _ rfl; have q2 := (HBB1.out.later hSw).cell 11 _ rfl; have q3 := (HBB1.out.later hSw).cell 12 _ rfl; have q4 := (HBB1.out.later hSw).cell 13 _ rfl; have q5 := (HBB1.out.later hSw).cell 14 _ rfl; have q6 := (HBB1.out.later hSw).cell 15 _ rfl; have q7 := (HBB1.out.later hSw).cell 16 _ rfl; have q8 := (HBB1.out.later hSw).cell 17 _ rfl; go_simp); (try with_reducible rfl))
      intro wq hwq
      subst hwq
      (try simp only [Act.put, List.setIfInBounds_toArray, List.set_cons_zero, List.set_cons_succ])
      refine wpAnyK_take (fun _ => rfl) (fun _ _ _ h k => h.trans k) (fun _ _ h k => k ▸ h) (i := 3) (oi := { dst := some 106, op := _, type := _, pos := _, after := _, guard := _ }) (v := ?_) rfl (by kernel_rfl) (by kernel_rfl) (by kernel_rfl) (fun _ _ _ h => h) (Or.inl (Or.inl ⟨by rfl, ?_⟩)) hS ?_
      rotate_left
      focus ((intro w hSw; (try dsimp only at hSw); have e0 := (HA1.out.later hSw).cell 0 _ rfl; have e1 := (HA1.out.later hSw).cell 1 _ rfl; have d0 := (HB1.out.later hSw).cell 0 _ rfl; have d1 := (HB1.out.later hSw).cell 1 _ rfl; have d2 := (HB1.out.later hSw).cell 2 _ rfl; have d3 := (HB1.out.later hSw).cell 3 _ rfl; have cb := (HCB1.out.later hSw).out; have q0 := (HBB1.out.later hSw).cell 9 _ rfl; have q1 := (HBB1.out.later hSw).cell 10 _ rfl; have q2 := (HBB1.out.later hSw).cell 11 _ rfl; have q3 := (HBB1.out.later hSw).cell 12 _ rfl; have q4 := (HBB1.out.later hSw).cell 13 _ rfl; have q5 := (HBB1.out.later hSw).cell 14 _ rfl; have q6 := (HBB1.out.later hSw).cell 15 _ rfl; have q7 := (HBB1.out.later hSw).cell 16 _ rfl; have q8 := (HBB1.out.later hSw).cell 17 _ rfl; go_simp); (try with_reducible rfl))
      intro wq hwq
      subst hwq
      (try simp only [Act.put, List.setIfInBounds_toArray, List.set_cons_zero, List.set_cons_succ])
      refine wpAnyK_take (fun _ => rfl) (fun _ _ _ h k => h.trans k) (fun _ _ h k => k ▸ h) (i := 4) (oi := { dst := some 107, op := _, type := _, pos := _, after := _, guard := _ }) (v := ?_) rfl (by kernel_rfl) (by kernel_rfl) (by kernel_rfl) (fun _ _ _ h => h) (Or.inl (Or.inl ⟨by rfl, ?_⟩)) hS ?_
      rotate_left
      focus ((intro w hSw; (try dsimp only at hSw); have e0 := (HA1.out.later hSw).cell 0 _ rfl; have e1 := (HA1.out.later hSw).cell 1 _ rfl; have d0 := (HB1.out.later hSw).cell 0 _ rfl; have d1 := (HB1.out.later hSw).cell 1 _ rfl; have d2 := (HB1.out.later hSw).cell 2 _ rfl; have d3 := (HB1.out.later hSw).cell 3 _ rfl; have cb := (HCB1.out.later hSw).out; have q0 := (HBB1.out.later hSw).cell 9 _ rfl; have q1 := (HBB1.out.later hSw).cell 10 _ rfl; have q2 := (HBB1.out.later hSw).cell 11 _ rfl; have q3 := (HBB1.out.later hSw).cell 12 _ rfl; have q4 := (HBB1.out.later hSw).cell 13 _ rfl; have q5 := (HBB1.out.later hSw).cell 14 _ rfl; have q6 := (HBB1.out.later hSw).cell 15 _ rfl; have q7 := (HBB1.out.later hSw).cell 16 _ rfl; have q8 := (HBB1.out.later hSw).cell 17 _ rfl; go_simp); (try with_reducible rfl))
      intro wq hwq
      subst hwq
      (try simp only [Act.put, List.setIfInBounds_toArray, List.set_cons_zero, List.set_cons_succ])
      refine wpAnyK_take (fun _ => rfl) (fun _ _ _ h k => h.trans k) (fun _ _ h k => k ▸ h) (i := 5) (oi := { dst := some 108, op := _, type := _, pos := _, after := _, guard := _ }) (v := ?_) rfl (by kernel_rfl) (by kernel_rfl) (by kernel_rfl) (fun _ _ _ h => h) (Or.inl (Or.inl ⟨by rfl, ?_⟩)) hS ?_
      rotate_left
      focus ((intro w hSw; (try dsimp only at hSw); have e0 := (HA1.out.later hSw).cell 0 _ rfl; have e1 := (HA1.out.later hSw).cell 1 _ rfl; have d0 := (HB1.out.later hSw).cell 0 _ rfl; have d1 := (HB1.out.later hSw).cell 1 _ rfl; have d2 := (HB1.out.later hSw).cell 2 _ rfl; have d3 := (HB1.out.later hSw).cell 3 _ rfl; have cb := (HCB1.out.later hSw).out; have q0 := (HBB1.out.later hSw).cell 9 _ rfl; have q1 := (HBB1.out.later hSw).cell 10 _ rfl; have q2 := (HBB1.out.later hSw).cell 11 _ rfl; have q3 := (HBB1.out.later hSw).cell 12 _ rfl; have q4 := (HBB1.out.later hSw).cell 13 _ rfl; have q5 := (HBB1.out.later hSw).cell 14 _ rfl; have q6 := (HBB1.out.later hSw).cell 15 _ rfl; have q7 := (HBB1.out.later hSw).cell 16 _ rfl; have q8 := (HBB1.out.later hSw).cell 17 _ rfl; go_simp); (try with_reducible rfl))
      intro wq hwq
      subst hwq
      (try simp only [Act.put, List.setIfInBounds_toArray, List.set_cons_zero, List.set_cons_succ])
      refine wpAnyK_take (fun _ => rfl) (fun _ _ _ h k => h.trans k) (fun _ _ h k => k ▸ h) (i := 6) (oi := { dst := some 109, op := _, type := _, pos := _, after := _, guard := _ }) (v := ?_) rfl (by kernel_rfl) (by kernel_rfl) (by kernel_rfl) (fun _ _ _ h => h) (Or.inl (Or.inl ⟨by rfl, ?_⟩)) hS ?_
      rotate_left
      focus ((intro w hSw; (try dsimp only at hSw); have e0 := (HA1.out.later hSw).cell 0 _ rfl; have e1 := (HA1.out.later hSw).cell 1 _ rfl; have d0 := (HB1.out.later hSw).cell 0 _ rfl; have d1 := (HB1.out.later hSw).cell 1 _ rfl; have d2 := (HB1.out.later hSw).cell 2 _ rfl; have d3 := (HB1.out.later hSw).cell 3 _ rfl; have cb := (HCB1.out.later hSw).out; have q0 := (HBB1.out.later hSw).cell 9 _ rfl; have q1 := (HBB1.out.later hSw).cell 10 _ rfl; have q2 := (HBB1.out.later hSw).cell 11 _ rfl; have q3 := (HBB1.out.later hSw).cell 12 _ rfl; have q4 := (HBB1.out.later hSw).cell 13 _ rfl; have q5 := (HBB1.out.later hSw).cell 14 _ rfl; have q6 := (HBB1.out.later hSw).cell 15 _ rfl; have q7 := (HBB1.out.later hSw).cell 16 _ rfl; have q8 := (HBB1.out.later hSw).cell 17 _ rfl; go_simp); (try with_reducible rfl))
      intro wq hwq
      subst hwq
      (try simp only [Act.put, List.setIfInBounds_toArray, List.set_cons_zero, List.set_cons_succ])
      refine wpAnyK_take (fun _ => rfl) (fun _ _ _ h k => h.trans k) (fun _ _ h k => k ▸ h) (i := 7) (oi := { dst := some 110, op := _, type := _, pos := _, after := _, guard := _ }) (v := ?_) rfl (by kernel_rfl) (by kernel_rfl) (by kernel_rfl) (fun _ _ _ h => h) (Or.inl (Or.inl ⟨by rfl, ?_⟩)) hS ?_
      rotate_left
      focus ((intro w hSw; (try dsimp only at hSw); have e0 := (HA1.out.later hSw).cell 0 _ rfl; have e1 := (HA1.out.later hSw).cell 1 _ rfl; have d0 := (HB1.out.later hSw).cell 0 _ rfl; have d1 := (HB1.out.later hSw).cell 1 _ rfl; have d2 := (HB1.out.later hSw).cell 2 _ rfl; have d3 := (HB1.out.later hSw).cell 3 _ rfl; have cb := (HCB1.out.later hSw).out; have q0 := (HBB1.out.later hSw).cell 9 _ rfl; have q1 := (HBB1.out.later hSw).cell 10 _ rfl; have q2 := (HBB1.out.later hSw).cell 11 _ rfl; have q3 := (HBB1.out.later hSw).cell 12 _ rfl; have q4 := (HBB1.out.later hSw).cell 13 _ rfl; have q5 := (HBB1.out.later hSw).cell 14 _ rfl; have q6 := (HBB1.out.later hSw).cell 15 _ rfl; have q7 := (HBB1.out.later hSw).cell 16 _ rfl; have q8 := (HBB1.out.later hSw).cell 17 _ rfl; go_simp); (try with_reducible rfl))
      intro wq hwq
      subst hwq
      (try simp only [Act.put, List.setIfInBounds_toArray, List.set_cons_zero, List.set_cons_succ])
      refine wpAnyK_all (rs := [8, 13, 14]) (by kernel_rfl) (by simp) (fun i hi => ?_)
      simp only [List.mem_cons, List.not_mem_nil, or_false] at hi
      rcases hi with rfl | rfl | rfl
      · refine stepK (o := { dst := some 111, op := _, type := _, pos := _, after := _, guard := _ }) rfl (fun K hK => ?_)
        go_simp
        refine (HAP.out _ hS).mono ?_
        intro e y1 hap
        obtain ⟨VA, vn, vcp, vlast, vsb, vpb, vparts, VE, ven, vec, vev, rfl, hv, lc⟩ := hap.v (Later.size hS)
        have HV := Lib.hid hv
        replace hS : (fun W : World => Later wc W) y1 := Later.trans hS lc
        refine hK _ _ hS fun wq hwq => ?_
        subst hwq
        clear hK hap hv lc
        (try simp only [Act.put, List.setIfInBounds_toArray, List.set_cons_zero, List.set_cons_succ])
        refine wpAnyK_take (fun _ => rfl) (fun _ _ _ h k => h.trans k) (fun _ _ h k => k ▸ h) (i := 9) (oi := { dst := some 102, op := _, type := _, pos := _, after := _, guard := _ }) (v := ?_) rfl (by kernel_rfl) (by kernel_rfl) (by kernel_rfl) (fun _ _ _ h => h) (Or.inl (Or.inl ⟨by rfl, ?_⟩)) hS ?_
        rotate_left
        focus ((intro w hSw; (try dsimp only at hSw); skip; go_simp); (try with_reducible rfl))
        intro wq hwq
        subst hwq
        (try simp only [Act.put, List.setIfInBounds_toArray, List.set_cons_zero, List.set_cons_succ])
        refine wpAnyK_take (fun _ => rfl) (fun _ _ _ h k => h.trans k) (fun _ _ h k => k ▸ h) (i := 10) (oi := { dst := some 112, op := _, type := _, pos := _, after := _, guard := _ }) (v := ?_) rfl (by kernel_rfl) (by kernel_rfl) (by kernel_rfl) (fun _ _ _ h => h) (Or.inl (Or.inl ⟨by rfl, ?_⟩)) hS ?_
        rotate_left
        focus ((intro w hSw; (try dsimp only at hSw); skip; go_simp); (try with_reducible rfl))
        intro wq hwq
        subst hwq
        (try simp only [Act.put, List.setIfInBounds_toArray, List.set_cons_zero, List.set_cons_succ])
        refine wpAnyK_take (fun _ => rfl) (fun _ _ _ h k => h.trans k) (fun _ _ h k => k ▸ h) (i := 11) (oi := { dst := some 113, op := _, type := _, pos := _, after := _, guard := _ }) (v := ?_) rfl (by kernel_rfl) (by kernel_rfl) (by kernel_rfl) (fun _ _ _ h => h) (Or.inl (Or.inl ⟨by rfl, ?_⟩)) hS ?_
        rotate_left
        focus ((intro w hSw; (try dsimp only at hSw); skip; go_simp); (try with_reducible rfl))
        intro wq hwq
        subst hwq
        (try simp only [Act.put, List.setIfInBounds_toArray, List.set_cons_zero, List.set_cons_succ])
        refine wpAnyK_take (fun _ => rfl) (fun _ _ _ h k => h.trans k) (fun _ _ h k => k ▸ h) (i := 12) (oi := { dst := some 114, op := _, type := _, pos := _, after := _, guard := _ }) (v := ?_) rfl (by kernel_rfl) (by kernel_rfl) (by kernel_rfl) (fun _ _ _ h => h) (Or.inl (Or.inl ⟨by rfl, ?_⟩)) hS ?_
        rotate_left
        focus ((intro w hSw; (try dsimp only at hSw); skip; go_simp); (try with_reducible rfl))
        intro wq hwq
        subst hwq
        (try simp only [Act.put, List.setIfInBounds_toArray, List.set_cons_zero, List.set_cons_succ])
        refine wpAnyK_all (rs := [13, 14]) (by kernel_rfl) (by simp) (fun i hi => ?_)
        simp only [List.mem_cons, List.not_mem_nil, or_false] at hi
        rcases hi with rfl | rfl
        · refine stepK (o := { dst := some 13, op := _, type := _, pos := _, after := _, guard := _ }) rfl (fun K hK => ?_)
          go_simp
          obtain ⟨ga, hgg⟩ : ∃ x, y1.heap.size = x := ⟨_, rfl⟩
          obtain ⟨y2, hyy⟩ : ∃ x, y1.alloc (.cells zS.toArray 24) = x := ⟨_, rfl⟩
          have lc : Later y1 y2 := hyy ▸ Later.new _ _
          have HA := Lib.hid (show Blk y2 ga zS.toArray 24 from hyy ▸ Blk.new _ _ _ _ hgg.symm)
          have HGA := Lib.hid (show wc.heap.size ≤ ga from hgg ▸ Later.size hS)
          replace hS : (fun W : World => Later wc W) y2 := Later.trans hS lc
          have HV := Lib.hid (HV.out.later lc)
          try rw [hgg]
          unfold zS at hyy
          rw [hyy]
          refine hK _ _ hS fun wq hwq => ?_
          subst hwq
          clear hK lc hyy hgg
          (try simp only [Act.put, List.setIfInBounds_toArray, List.set_cons_zero, List.set_cons_succ])
          refine wpAnyK_all (rs := [14]) (by kernel_rfl) (by simp) (fun i hi => ?_)
          simp only [List.mem_cons, List.not_mem_nil, or_false] at hi
          subst hi
          refine stepK (o := { dst := some 14, op := _, type := _, pos := _, after := _, guard := _ }) rfl (fun K hK => ?_)
          go_simp
          obtain ⟨gb, hgg⟩ : ∃ x, y2.heap.size = x := ⟨_, rfl⟩
          obtain ⟨y3, hyy⟩ : ∃ x, y2.alloc (.cells zL.toArray 27) = x := ⟨_, rfl⟩
          have lc : Later y2 y3 := hyy ▸ Later.new _ _
          have HB := Lib.hid (show Blk y3 gb zL.toArray 27 from hyy ▸ Blk.new _ _ _ _ hgg.symm)
          have HGB := Lib.hid (show wc.heap.size ≤ gb from hgg ▸ Later.size hS)
          replace hS : (fun W : World => Later wc W) y3 := Later.trans hS lc
          have HV := Lib.hid (HV.out.later lc)
          have HA := Lib.hid (HA.out.later lc)
          try rw [hgg]
          unfold zL at hyy
          rw [hyy]
          refine hK _ _ hS fun wq hwq => ?_
          subst hwq
          clear hK lc hyy hgg
          (try simp only [Act.put, List.setIfInBounds_toArray, List.set_cons_zero, List.set_cons_succ])
          have hab : ga ≠ gb := ne_typ HA.out HB.out (by decide)
          refine wpAnyK_all (rs := [15]) (by kernel_rfl) (by simp) (fun i hi => ?_)
          simp only [List.mem_cons, List.not_mem_nil, or_false] at hi
          subst hi
          refine stepK (o := { dst := none, op := _, type := _, pos := _, after := _, guard := _ }) rfl (fun K hK => ?_)
          rw [if_pos (by rfl)]
          refine wp_store_mid 24 _ _ rfl ga 0 #[.slice VA vn vcp, .int .i64 vlast] rfl rfl (fun j hj => by rw [Nat.zero_add]; have hj2 : j < 2 := hj; exact ⟨by rw [cell_of_row y3 ga j _ _ _ HA.out, Array.getElem?_eq_getElem (by exact hj2)]; rfl, HA.out.frozen j⟩) (by kernel_rfl) (by simp [Value.oneCell']) ?_
          have hA2 := Blk.fill zS [.slice VA vn vcp, .int .i64 vlast] HA.out rfl
          have hB2 := HB.out.aside hab.symm 0 [.slice VA vn vcp, .int .i64 vlast]
          have hV2 := HV.out.fill HA.out (by decide) (by decide) 0 [.slice VA vn vcp, .int .i64 vlast]
          have hS : (fun W : World => Later wc W) (y3.setCells ga 0 [.slice VA vn vcp, .int .i64 vlast]) := Later.fill hS HGA.out 0 _
          refine hK _ _ hS fun wq hwq => ?_
          obtain ⟨z1, hz1⟩ : ∃ x, y3.setCells ga 0 [.slice VA vn vcp, .int .i64 vlast] = x := ⟨_, rfl⟩
          rw [hz1] at hA2 hB2 hV2 hS
          have hz2 : z1 = wq := hz1.symm.trans hwq
          subst hz2
          clear hK hwq hz1
          (try simp only [Act.put])
          refine wpAnyK_all (rs := [16]) (by kernel_rfl) (by simp) (fun i hi => ?_)
          simp only [List.mem_cons, List.not_mem_nil, or_false] at hi
          subst hi
          refine stepK (o := { dst := none, op := _, type := _, pos := _, after := _, guard := _ }) rfl (fun K hK => ?_)
          rw [if_pos (by rfl)]
          refine wp_store_mid 27 _ _ rfl gb 0 #[.int .i64 vsb, .int .i64 vpb, .int .i64 vparts, .slice VE ven vec] rfl rfl (fun j hj => by rw [Nat.zero_add]; have hj2 : j < 4 := hj; exact ⟨by rw [cell_of_row z1 gb j _ _ _ hB2, Array.getElem?_eq_getElem (by exact hj2)]; rfl, hB2.frozen j⟩) (by kernel_rfl) (by simp [Value.oneCell']) ?_
          have hB3 := Blk.fill zL [.int .i64 vsb, .int .i64 vpb, .int .i64 vparts, .slice VE ven vec] hB2 rfl
          have hA3 := hA2.aside hab 0 [.int .i64 vsb, .int .i64 vpb, .int .i64 vparts, .slice VE ven vec]
          have hV3 := hV2.fill hB2 (by decide) (by decide) 0 [.int .i64 vsb, .int .i64 vpb, .int .i64 vparts, .slice VE ven vec]
          have hS : (fun W : World => Later wc W) (z1.setCells gb 0 [.int .i64 vsb, .int .i64 vpb, .int .i64 vparts, .slice VE ven vec]) := Later.fill hS HGB.out 0 _
          refine hK _ _ hS fun wq hwq => ?_
          obtain ⟨z2, hz1⟩ : ∃ x, z1.setCells gb 0 [.int .i64 vsb, .int .i64 vpb, .int .i64 vparts, .slice VE ven vec] = x := ⟨_, rfl⟩
          rw [hz1] at hA3 hB3 hV3 hS
          have hz2 : z2 = wq := hz1.symm.trans hwq
          subst hz2
          clear hK hwq hz1 hA2 hB2 hV2
          (try simp only [Act.put])
          refine wpAnyK_take (fun _ => rfl) (fun _ _ _ h k => h.trans k) (fun _ _ h k => k ▸ h) (i := 17) (oi := { dst := some 15, op := _, type := _, pos := _, after := _, guard := _ }) (v := ?_) rfl (by kernel_rfl) (by kernel_rfl) (by kernel_rfl) (fun _ _ _ h => h) (Or.inl (Or.inl ⟨by rfl, ?_⟩)) hS ?_
          rotate_left
          focus ((intro w hSw; (try dsimp only at hSw); skip; go_simp); (try with_reducible rfl))
          intro wq hwq
          subst hwq
          (try simp only [Act.put, List.setIfInBounds_toArray, List.set_cons_zero, List.set_cons_succ])
          refine wpAnyK_done (by kernel_rfl) ?_ _
          go_wp2_with fail
          go_meet
          exact ⟨ga, gb, VA, vn, vcp, vlast, vsb, vpb, vparts, VE, ven, vec, vev, rfl, rfl, rfl, hV3, hA3, hB3, hab, HGA.out, HGB.out, hS⟩
        · refine stepK (o := { dst := some 14, op := _, type := _, pos := _, after := _, guard := _ }) rfl (fun K hK => ?_)
          go_simp
          obtain ⟨gb, hgg⟩ : ∃ x, y1.heap.size = x := ⟨_, rfl⟩
          obtain ⟨y2, hyy⟩ : ∃ x, y1.alloc (.cells zL.toArray 27) = x := ⟨_, rfl⟩
          have lc : Later y1 y2 := hyy ▸ Later.new _ _
          have HB := Lib.hid (show Blk y2 gb zL.toArray 27 from hyy ▸ Blk.new _ _ _ _ hgg.symm)
          have HGB := Lib.hid (show wc.heap.size ≤ gb from hgg ▸ Later.size hS)
          replace hS : (fun W : World => Later wc W) y2 := Later.trans hS lc
          have HV := Lib.hid (HV.out.later lc)
          try rw [hgg]
          unfold zL at hyy
          rw [hyy]
          refine hK _ _ hS fun wq hwq => ?_
          subst hwq
          clear hK lc hyy hgg
          (try simp only [Act.put, List.setIfInBounds_toArray, List.set_cons_zero, List.set_cons_succ])
          refine wpAnyK_all (rs := [13]) (by kernel_rfl) (by simp) (fun i hi => ?_)
          simp only [List.mem_cons, List.not_mem_nil, or_false] at hi
          subst hi
          refine stepK (o := { dst := some 13, op := _, type := _, pos := _, after := _, guard := _ }) rfl (fun K hK => ?_)
          go_simp
          obtain ⟨ga, hgg⟩ : ∃ x, y2.heap.size = x := ⟨_, rfl⟩
          obtain ⟨y3, hyy⟩ : ∃ x, y2.alloc (.cells zS.toArray 24) = x := ⟨_, rfl⟩
          have lc : Later y2 y3 := hyy ▸ Later.new _ _
          have HA := Lib.hid (show Blk y3 ga zS.toArray 24 from hyy ▸ Blk.new _ _ _ _ hgg.symm)
          have HGA := Lib.hid (show wc.heap.size ≤ ga from hgg ▸ Later.size hS)
          replace hS : (fun W : World => Later wc W) y3 := Later.trans hS lc
          have HV := Lib.hid (HV.out.later lc)
          have HB := Lib.hid (HB.out.later lc)
          try rw [hgg]
          unfold zS at hyy
          rw [hyy]
          refine hK _ _ hS fun wq hwq => ?_
          subst hwq
          clear hK lc hyy hgg
          (try simp only [Act.put, List.setIfInBounds_toArray, List.set_cons_zero, List.set_cons_succ])
          have hab : ga ≠ gb := ne_typ HA.out HB.out (by decide)
          refine wpAnyK_all (rs := [15]) (by kernel_rfl) (by simp) (fun i hi => ?_)
          simp only [List.mem_cons, List.not_mem_nil, or_false] at hi
          subst hi
          refine stepK (o := { dst := none, op := _, type := _, pos := _, after := _, guard := _ }) rfl (fun K hK => ?_)
          rw [if_pos (by rfl)]
          refine wp_store_mid 24 _ _ rfl ga 0 #[.slice VA vn vcp, .int .i64 vlast] rfl rfl (fun j hj => by rw [Nat.zero_add]; have hj2 : j < 2 := hj; exact ⟨by rw [cell_of_row y3 ga j _ _ _ HA.out, Array.getElem?_eq_getElem (by exact hj2)]; rfl, HA.out.frozen j⟩) (by kernel_rfl) (by simp [Value.oneCell']) ?_
          have hA2 := Blk.fill zS [.slice VA vn vcp, .int .i64 vlast] HA.out rfl
          have hB2 := HB.out.aside hab.symm 0 [.slice VA vn vcp, .int .i64 vlast]
          have hV2 := HV.out.fill HA.out (by decide) (by decide) 0 [.slice VA vn vcp, .int .i64 vlast]
          have hS : (fun W : World => Later wc W) (y3.setCells ga 0 [.slice VA vn vcp, .int .i64 vlast]) := Later.fill hS HGA.out 0 _
          refine hK _ _ hS fun wq hwq => ?_
          obtain ⟨z1, hz1⟩ : ∃ x, y3.setCells ga 0 [.slice VA vn vcp, .int .i64 vlast] = x := ⟨_, rfl⟩
          rw [hz1] at hA2 hB2 hV2 hS
          have hz2 : z1 = wq := hz1.symm.trans hwq
          subst hz2
          clear hK hwq hz1
          (try simp only [Act.put])
          refine wpAnyK_all (rs := [16]) (by kernel_rfl) (by simp) (fun i hi => ?_)
          simp only [List.mem_cons, List.not_mem_nil, or_false] at hi
          subst hi
          refine stepK (o := { dst := none, op := _, type := _, pos := _, after := _, guard := _ }) rfl (fun K hK => ?_)
          rw [if_pos (by rfl)]
          refine wp_store_mid 27 _ _ rfl gb 0 #[.int .i64 vsb, .int .i64 vpb, .int .i64 vparts, .slice VE ven vec] rfl rfl (fun j hj => by rw [Nat.zero_add]; have hj2 : j < 4 := hj; exact ⟨by rw [cell_of_row z1 gb j _ _ _ hB2, Array.getElem?_eq_getElem (by exact hj2)]; rfl, hB2.frozen j⟩) (by kernel_rfl) (by simp [Value.oneCell']) ?_
          have hB3 := Blk.fill zL [.int .i64 vsb, .int .i64 vpb, .int .i64 vparts, .slice VE ven vec] hB2 rfl
          have hA3 := hA2.aside hab 0 [.int .i64 vsb, .int .i64 vpb, .int .i64 vparts, .slice VE ven vec]
          have hV3 := hV2.fill hB2 (by decide) (by decide) 0 [.int .i64 vsb, .int .i64 vpb, .int .i64 vparts, .slice VE ven vec]
          have hS : (fun W : World => Later wc W) (z1.setCells gb 0 [.int .i64 vsb, .int .i64 vpb, .int .i64 vparts, .slice VE ven vec]) := Later.fill hS HGB.out 0 _
          refine hK _ _ hS fun wq hwq => ?_
          obtain ⟨z2, hz1⟩ : ∃ x, z1.setCells gb 0 [.int .i64 vsb, .int .i64 vpb, .int .i64 vparts, .slice VE ven vec] = x := ⟨_, rfl⟩
          rw [hz1] at hA3 hB3 hV3 hS
          have hz2 : z2 = wq := hz1.symm.trans hwq
          subst hz2
          clear hK hwq hz1 hA2 hB2 hV2
          (try simp only [Act.put])
          refine wpAnyK_take (fun _ => rfl) (fun _ _ _ h k => h.trans k) (fun _ _ h k => k ▸ h) (i := 17) (oi := { dst := some 15, op := _, type := _, pos := _, after := _, guard := _ }) (v := ?_) rfl (by kernel_rfl) (by kernel_rfl) (by kernel_rfl) (fun _ _ _ h => h) (Or.inl (Or.inl ⟨by rfl, ?_⟩)) hS ?_
          rotate_left
          focus ((intro w hSw; (try dsimp only at hSw); skip; go_simp); (try with_reducible rfl))
          intro wq hwq
          subst hwq
          (try simp only [Act.put, List.setIfInBounds_toArray, List.set_cons_zero, List.set_cons_succ])
          refine wpAnyK_done (by kernel_rfl) ?_ _
          go_wp2_with fail
          go_meet
          exact ⟨ga, gb, VA, vn, vcp, vlast, vsb, vpb, vparts, VE, ven, vec, vev, rfl, rfl, rfl, hV3, hA3, hB3, hab, HGA.out, HGB.out, hS⟩
      · refine stepK (o := { dst := some 13, op := _, type := _, pos := _, after := _, guard := _ }) rfl (fun K hK => ?_)
        go_simp
        obtain ⟨ga, hgg⟩ : ∃ x, y0.heap.size = x := ⟨_, rfl⟩
        obtain ⟨y1, hyy⟩ : ∃ x, y0.alloc (.cells zS.toArray 24) = x := ⟨_, rfl⟩
        have lc : Later y0 y1 := hyy ▸ Later.new _ _
        have HA := Lib.hid (show Blk y1 ga zS.toArray 24 from hyy ▸ Blk.new _ _ _ _ hgg.symm)
        have HGA := Lib.hid (show wc.heap.size ≤ ga from hgg ▸ Later.size hS)
        replace hS : (fun W : World => Later wc W) y1 := Later.trans hS lc
        try rw [hgg]
        unfold zS at hyy
        rw [hyy]
        refine hK _ _ hS fun wq hwq => ?_
        subst hwq
        clear hK lc hyy hgg
        (try simp only [Act.put, List.setIfInBounds_toArray, List.set_cons_zero, List.set_cons_succ])
        refine wpAnyK_all (rs := [8, 14]) (by kernel_rfl) (by simp) (fun i hi => ?_)
        simp only [List.mem_cons, List.not_mem_nil, or_false] at hi
        rcases hi with rfl | rfl
        · refine stepK (o := { dst := some 111, op := _, type := _, pos := _, after := _, guard := _ }) rfl (fun K hK => ?_)
          go_simp
          refine (HAP.out _ hS).mono ?_
          intro e y2 hap
          obtain ⟨VA, vn, vcp, vlast, vsb, vpb, vparts, VE, ven, vec, vev, rfl, hv, lc⟩ := hap.v (Later.size hS)
          have HV := Lib.hid hv
          replace hS : (fun W : World => Later wc W) y2 := Later.trans hS lc
          have HA := Lib.hid (HA.out.later lc)
          refine hK _ _ hS fun wq hwq => ?_
          subst hwq
          clear hK hap hv lc
          (try simp only [Act.put, List.setIfInBounds_toArray, List.set_cons_zero, List.set_cons_succ])
          refine wpAnyK_take (fun _ => rfl) (fun _ _ _ h k => h.trans k) (fun _ _ h k => k ▸ h) (i := 9) (oi := { dst := some 102, op := _, type := _, pos := _, after := _, guard := _ }) (v := ?_) rfl (by kernel_rfl) (by kernel_rfl) (by kernel_rfl) (fun _ _ _ h => h) (Or.inl (Or.inl ⟨by rfl, ?_⟩)) hS ?_
          rotate_left
          focus ((intro w hSw; (try dsimp only at hSw); skip; go_simp); (try with_reducible rfl))
          intro wq hwq
          subst hwq
          (try simp only [Act.put, List.setIfInBounds_toArray, List.set_cons_zero, List.set_cons_succ])
          refine wpAnyK_take (fun _ => rfl) (fun _ _ _ h k => h.trans k) (fun _ _ h k => k ▸ h) (i := 10) (oi := { dst := some 112, op := _, type := _, pos := _, after := _, guard := _ }) (v := ?_) rfl (by kernel_rfl) (by kernel_rfl) (by kernel_rfl) (fun _ _ _ h => h) (Or.inl (Or.inl ⟨by rfl, ?_⟩)) hS ?_
          rotate_left
          focus ((intro w hSw; (try dsimp only at hSw); skip; go_simp); (try with_reducible rfl))
          intro wq hwq
          subst hwq
          (try simp only [Act.put, List.setIfInBounds_toArray, List.set_cons_zero, List.set_cons_succ])
          refine wpAnyK_take (fun _ => rfl) (fun _ _ _ h k => h.trans k) (fun _ _ h k => k ▸ h) (i := 11) (oi := { dst := some 113, op := _, type := _, pos := _, after := _, guard := _ }) (v := ?_) rfl (by kernel_rfl) (by kernel_rfl) (by kernel_rfl) (fun _ _ _ h => h) (Or.inl (Or.inl ⟨by rfl, ?_⟩)) hS ?_
          rotate_left
          focus ((intro w hSw; (try dsimp only at hSw); skip; go_simp); (try with_reducible rfl))
          intro wq hwq
          subst hwq
          (try simp only [Act.put, List.setIfInBounds_toArray, List.set_cons_zero, List.set_cons_succ])
          refine wpAnyK_take (fun _ => rfl) (fun _ _ _ h k => h.trans k) (fun _ _ h k => k ▸ h) (i := 12) (oi := { dst := some 114, op := _, type := _, pos := _, after := _, guard := _ }) (v := ?_) rfl (by kernel_rfl) (by kernel_rfl) (by kernel_rfl) (fun _ _ _ h => h) (Or.inl (Or.inl ⟨by rfl, ?_⟩)) hS ?_
          rotate_left
          focus ((intro w hSw; (try dsimp only at hSw); skip; go_simp); (try with_reducible rfl))
          intro wq hwq
          subst hwq
          (try simp only [Act.put, List.setIfInBounds_toArray, List.set_cons_zero, List.set_cons_succ])
          refine wpAnyK_all (rs := [14]) (by kernel_rfl) (by simp) (fun i hi => ?_)
          simp only [List.mem_cons, List.not_mem_nil, or_false] at hi
          subst hi
          refine stepK (o := { dst := some 14, op := _, type := _, pos := _, after := _, guard := _ }) rfl (fun K hK => ?_)
          go_simp
          obtain ⟨gb, hgg⟩ : ∃ x, y2.heap.size = x := ⟨_, rfl⟩
          obtain ⟨y3, hyy⟩ : ∃ x, y2.alloc (.cells zL.toArray 27) = x := ⟨_, rfl⟩
          have lc : Later y2 y3 := hyy ▸ Later.new _ _
          have HB := Lib.hid (show Blk y3 gb zL.toArray 27 from hyy ▸ Blk.new _ _ _ _ hgg.symm)
          have HGB := Lib.hid (show wc.heap.size ≤ gb from hgg ▸ Later.size hS)
          replace hS : (fun W : World => Later wc W) y3 := Later.trans hS lc
          have HV := Lib.hid (HV.out.later lc)
          have HA := Lib.hid (HA.out.later lc)
          try rw [hgg]
          unfold zL at hyy
          rw [hyy]
          refine hK _ _ hS fun wq hwq => ?_
          subst hwq
          clear hK lc hyy hgg
          (try simp only [Act.put, List.setIfInBounds_toArray, List.set_cons_zero, List.set_cons_succ])
          have hab : ga ≠ gb := ne_typ HA.out HB.out (by decide)
          refine wpAnyK_all (rs := [15]) (by kernel_rfl) (by simp) (fun i hi => ?_)
          simp only [List.mem_cons, List.not_mem_nil, or_false] at hi
          subst hi
          refine stepK (o := { dst := none, op := _, type := _, pos := _, after := _, guard := _ }) rfl (fun K hK => ?_)
          rw [if_pos (by rfl)]
          refine wp_store_mid 24 _ _ rfl ga 0 #[.slice VA vn vcp, .int .i64 vlast] rfl rfl (fun j hj => by rw [Nat.zero_add]; have hj2 : j < 2 := hj; exact ⟨by rw [cell_of_row y3 ga j _ _ _ HA.out, Array.getElem?_eq_getElem (by exact hj2)]; rfl, HA.out.frozen j⟩) (by kernel_rfl) (by simp [Value.oneCell']) ?_
          have hA2 := Blk.fill zS [.slice VA vn vcp, .int .i64 vlast] HA.out rfl
          have hB2 := HB.out.aside hab.symm 0 [.slice VA vn vcp, .int .i64 vlast]
          have hV2 := HV.out.fill HA.out (by decide) (by decide) 0 [.slice VA vn vcp, .int .i64 vlast]
          have hS : (fun W : World => Later wc W) (y3.setCells ga 0 [.slice VA vn vcp, .int .i64 vlast]) := Later.fill hS HGA.out 0 _
          refine hK _ _ hS fun wq hwq => ?_
          obtain ⟨z1, hz1⟩ : ∃ x, y3.setCells ga 0 [.slice VA vn vcp, .int .i64 vlast] = x := ⟨_, rfl⟩
          rw [hz1] at hA2 hB2 hV2 hS
          have hz2 : z1 = wq := hz1.symm.trans hwq
          subst hz2
          clear hK hwq hz1
          (try simp only [Act.put])
          refine wpAnyK_all (rs := [16]) (by kernel_rfl) (by simp) (fun i hi => ?_)
          simp only [List.mem_cons, List.not_mem_nil, or_false] at hi
          subst hi
          refine stepK (o := { dst := none, op := _, type := _, pos := _, after := _, guard := _ }) rfl (fun K hK => ?_)
          rw [if_pos (by rfl)]
          refine wp_store_mid 27 _ _ rfl gb 0 #[.int .i64 vsb, .int .i64 vpb, .int .i64 vparts, .slice VE ven vec] rfl rfl (fun j hj => by rw [Nat.zero_add]; have hj2 : j < 4 := hj; exact ⟨by rw [cell_of_row z1 gb j _ _ _ hB2, Array.getElem?_eq_getElem (by exact hj2)]; rfl, hB2.frozen j⟩) (by kernel_rfl) (by simp [Value.oneCell']) ?_
          have hB3 := Blk.fill zL [.int .i64 vsb, .int .i64 vpb, .int .i64 vparts, .slice VE ven vec] hB2 rfl
          have hA3 := hA2.aside hab 0 [.int .i64 vsb, .int .i64 vpb, .int .i64 vparts, .slice VE ven vec]
          have hV3 := hV2.fill hB2 (by decide) (by decide) 0 [.int .i64 vsb, .int .i64 vpb, .int .i64 vparts, .slice VE ven vec]
          have hS : (fun W : World => Later wc W) (z1.setCells gb 0 [.int .i64 vsb, .int .i64 vpb, .int .i64 vparts, .slice VE ven vec]) := Later.fill hS HGB.out 0 _
          refine hK _ _ hS fun wq hwq => ?_
          obtain ⟨z2, hz1⟩ : ∃ x, z1.setCells gb 0 [.int .i64 vsb, .int .i64 vpb, .int .i64 vparts, .slice VE ven vec] = x := ⟨_, rfl⟩
          rw [hz1] at hA3 hB3 hV3 hS
          have hz2 : z2 = wq := hz1.symm.trans hwq
          subst hz2
          clear hK hwq hz1 hA2 hB2 hV2
          (try simp only [Act.put])
          refine wpAnyK_take (fun _ => rfl) (fun _ _ _ h k => h.trans k) (fun _ _ h k => k ▸ h) (i := 17) (oi := { dst := some 15, op := _, type := _, pos := _, after := _, guard := _ }) (v := ?_) rfl (by kernel_rfl) (by kernel_rfl) (by kernel_rfl) (fun _ _ _ h => h) (Or.inl (Or.inl ⟨by rfl, ?_⟩)) hS ?_
          rotate_left
          focus ((intro w hSw; (try dsimp only at hSw); skip; go_simp); (try with_reducible rfl))
          intro wq hwq
          subst hwq
          (try simp only [Act.put, List.setIfInBounds_toArray, List.set_cons_zero, List.set_cons_succ])
          refine wpAnyK_done (by kernel_rfl) ?_ _
          go_wp2_with fail
          go_meet
          exact ⟨ga, gb, VA, vn, vcp, vlast, vsb, vpb, vparts, VE, ven, vec, vev, rfl, rfl, rfl, hV3, hA3, hB3, hab, HGA.out, HGB.out, hS⟩
        · refine stepK (o := { dst := some 14, op := _, type := _, pos := _, after := _, guard := _ }) rfl (fun K hK => ?_)
          go_simp
          obtain ⟨gb, hgg⟩ : ∃ x, y1.heap.size = x := ⟨_, rfl⟩
          obtain ⟨y2, hyy⟩ : ∃ x, y1.alloc (.cells zL.toArray 27) = x := ⟨_, rfl⟩
          have lc : Later y1 y2 := hyy ▸ Later.new _ _
          have HB := Lib.hid (show Blk y2 gb zL.toArray 27 from hyy ▸ Blk.new _ _ _ _ hgg.symm)
          have HGB := Lib.hid (show wc.heap.size ≤ gb from hgg ▸ Later.size hS)
          replace hS : (fun W : World => Later wc W) y2 := Later.trans hS lc
          have HA := Lib.hid (HA.out.later lc)
          try rw [hgg]
          unfold zL at hyy
          rw [hyy]
          refine hK _ _ hS fun wq hwq => ?_
          subst hwq
          clear hK lc hyy hgg
          (try simp only [Act.put, List.setIfInBounds_toArray, List.set_cons_zero, List.set_cons_succ])
          refine wpAnyK_all (rs := [8]) (by kernel_rfl) (by simp) (fun i hi => ?_)
          simp only [List.mem_cons, List.not_mem_nil, or_false] at hi
          subst hi
          refine stepK (o := { dst := some 111, op := _, type := _, pos := _, after := _, guard := _ }) rfl (fun K hK => ?_)
          go_simp
          refine (HAP.out _ hS).mono ?_
          intro e y3 hap
          obtain ⟨VA, vn, vcp, vlast, vsb, vpb, vparts, VE, ven, vec, vev, rfl, hv, lc⟩ := hap.v (Later.size hS)
          have HV := Lib.hid hv
          replace hS : (fun W : World => Later wc W) y3 := Later.trans hS lc
          have HA := Lib.hid (HA.out.later lc)
          have HB := Lib.hid (HB.out.later lc)
          refine hK _ _ hS fun wq hwq => ?_
          subst hwq
          clear hK hap hv lc
          (try simp only [Act.put, List.setIfInBounds_toArray, List.set_cons_zero, List.set_cons_succ])
          refine wpAnyK_take (fun _ => rfl) (fun _ _ _ h k => h.trans k) (fun _ _ h k => k ▸ h) (i := 9) (oi := { dst := some 102, op := _, type := _, pos := _, after := _, guard := _ }) (v := ?_) rfl (by kernel_rfl) (by kernel_rfl) (by kernel_rfl) (fun _ _ _ h => h) (Or.inl (Or.inl ⟨by rfl, ?_⟩)) hS ?_
          rotate_left
          focus ((intro w hSw; (try dsimp only at hSw); skip; go_simp); (try with_reducible rfl))
          intro wq hwq
          subst hwq
          (try simp only [Act.put, List.setIfInBounds_toArray, List.set_cons_zero, List.set_cons_succ])
          refine wpAnyK_take (fun _ => rfl) (fun _ _ _ h k => h.trans k) (fun _ _ h k => k ▸ h) (i := 10) (oi := { dst := some 112, op := _, type := _, pos := _, after := _, guard := _ }) (v := ?_) rfl (by kernel_rfl) (by kernel_rfl) (by kernel_rfl) (fun _ _ _ h => h) (Or.inl (Or.inl ⟨by rfl, ?_⟩)) hS ?_
          rotate_left
          focus ((intro w hSw; (try dsimp only at hSw); skip; go_simp); (try with_reducible rfl))
          intro wq hwq
          subst hwq
          (try simp only [Act.put, List.setIfInBounds_toArray, List.set_cons_zero, List.set_cons_succ])
          refine wpAnyK_take (fun _ => rfl) (fun _ _ _ h k => h.trans k) (fun _ _ h k => k ▸ h) (i := 11) (oi := { dst := some 113, op := _, type := _, pos := _, after := _, guard := _ }) (v := ?_) rfl (by kernel_rfl) (by kernel_rfl) (by kernel_rfl) (fun _ _ _ h => h) (Or.inl (Or.inl ⟨by rfl, ?_⟩)) hS ?_
          rotate_left
          focus ((intro w hSw; (try dsimp only at hSw); skip; go_simp); (try with_reducible rfl))
          intro wq hwq
          subst hwq
          (try simp only [Act.put, List.setIfInBounds_toArray, List.set_cons_zero, List.set_cons_succ])
          refine wpAnyK_take (fun _ => rfl) (fun _ _ _ h k => h.trans k) (fun _ _ h k => k ▸ h) (i := 12) (oi := { dst := some 114, op := _, type := _, pos := _, after := _, guard := _ }) (v := ?_) rfl (by kernel_rfl) (by kernel_rfl) (by kernel_rfl) (fun _ _ _ h => h) (Or.inl (Or.inl ⟨by rfl, ?_⟩)) hS ?_
          rotate_left
          focus ((intro w hSw; (try dsimp only at hSw); skip; go_simp); (try with_reducible rfl))
          intro wq hwq
          subst hwq
          (try simp only [Act.put, List.setIfInBounds_toArray, List.set_cons_zero, List.set_cons_succ])
          have hab : ga ≠ gb := ne_typ HA.out HB.out (by decide)
          refine wpAnyK_all (rs := [15]) (by kernel_rfl) (by simp) (fun i hi => ?_)
          simp only [List.mem_cons, List.not_mem_nil, or_false] at hi
          subst hi
          refine stepK (o := { dst := none, op := _, type := _, pos := _, after := _, guard := _ }) rfl (fun K hK => ?_)
          rw [if_pos (by rfl)]
          refine wp_store_mid 24 _ _ rfl ga 0 #[.slice VA vn vcp, .int .i64 vlast] rfl rfl (fun j hj => by rw [Nat.zero_add]; have hj2 : j < 2 := hj; exact ⟨by rw [cell_of_row y3 ga j _ _ _ HA.out, Array.getElem?_eq_getElem (by exact hj2)]; rfl, HA.out.frozen j⟩) (by kernel_rfl) (by simp [Value.oneCell']) ?_
          have hA2 := Blk.fill zS [.slice VA vn vcp, .int .i64 vlast] HA.out rfl
          have hB2 := HB.out.aside hab.symm 0 [.slice VA vn vcp, .int .i64 vlast]
          have hV2 := HV.out.fill HA.out (by decide) (by decide) 0 [.slice VA vn vcp, .int .i64 vlast]
          have hS : (fun W : World => Later wc W) (y3.setCells ga 0 [.slice VA vn vcp, .int .i64 vlast]) := Later.fill hS HGA.out 0 _
          refine hK _ _ hS fun wq hwq => ?_
          obtain ⟨z1, hz1⟩ : ∃ x, y3.setCells ga 0 [.slice VA vn vcp, .int .i64 vlast] = x := ⟨_, rfl⟩
          rw [hz1] at hA2 hB2 hV2 hS
          have hz2 : z1 = wq := hz1.symm.trans hwq
          subst hz2
          clear hK hwq hz1
          (try simp only [Act.put])
          refine wpAnyK_all (rs := [16]) (by kernel_rfl) (by simp) (fun i hi => ?_)
          simp only [List.mem_cons, List.not_mem_nil, or_false] at hi
          subst hi
          refine stepK (o := { dst := none, op := _, type := _, pos := _, after := _, guard := _ }) rfl (fun K hK => ?_)
          rw [if_pos (by rfl)]
          refine wp_store_mid 27 _ _ rfl gb 0 #[.int .i64 vsb, .int .i64 vpb, .int .i64 vparts, .slice VE ven vec] rfl rfl (fun j hj => by rw [Nat.zero_add]; have hj2 : j < 4 := hj; exact ⟨by rw [cell_of_row z1 gb j _ _ _ hB2, Array.getElem?_eq_getElem (by exact hj2)]; rfl, hB2.frozen j⟩) (by kernel_rfl) (by simp [Value.oneCell']) ?_
          have hB3 := Blk.fill zL [.int .i64 vsb, .int .i64 vpb, .int .i64 vparts, .slice VE ven vec] hB2 rfl
          have hA3 := hA2.aside hab 0 [.int .i64 vsb, .int .i64 vpb, .int .i64 vparts, .slice VE ven vec]
          have hV3 := hV2.fill hB2 (by decide) (by decide) 0 [.int .i64 vsb, .int .i64 vpb, .int .i64 vparts, .slice VE ven vec]
          have hS : (fun W : World => Later wc W) (z1.setCells gb 0 [.int .i64 vsb, .int .i64 vpb, .int .i64 vparts, .slice VE ven vec]) := Later.fill hS HGB.out 0 _
          refine hK _ _ hS fun wq hwq => ?_
          obtain ⟨z2, hz1⟩ : ∃ x, z1.setCells gb 0 [.int .i64 vsb, .int .i64 vpb, .int .i64 vparts, .slice VE ven vec] = x := ⟨_, rfl⟩
          rw [hz1] at hA3 hB3 hV3 hS
          have hz2 : z2 = wq := hz1.symm.trans hwq
          subst hz2
          clear hK hwq hz1 hA2 hB2 hV2
          (try simp only [Act.put])
          refine wpAnyK_take (fun _ => rfl) (fun _ _ _ h k => h.trans k) (fun _ _ h k => k ▸ h) (i := 17) (oi := { dst := some 15, op := _, type := _, pos := _, after := _, guard := _ }) (v := ?_) rfl (by kernel_rfl) (by kernel_rfl) (by kernel_rfl) (fun _ _ _ h => h) (Or.inl (Or.inl ⟨by rfl, ?_⟩)) hS ?_
          rotate_left
          focus ((intro w hSw; (try dsimp only at hSw); skip; go_simp); (try with_reducible rfl))
          intro wq hwq
          subst hwq
          (try simp only [Act.put, List.setIfInBounds_toArray, List.set_cons_zero, List.set_cons_succ])
          refine wpAnyK_done (by kernel_rfl) ?_ _
          go_wp2_with fail
          go_meet
          exact ⟨ga, gb, VA, vn, vcp, vlast, vsb, vpb, vparts, VE, ven, vec, vev, rfl, rfl, rfl, hV3, hA3, hB3, hab, HGA.out, HGB.out, hS⟩
      · refine stepK (o := { dst := some 14, op := _, type := _, pos := _, after := _, guard := _ }) rfl (fun K hK => ?_)
        go_simp
        obtain ⟨gb, hgg⟩ : ∃ x, y0.heap.size = x := ⟨_, rfl⟩
        obtain ⟨y1, hyy⟩ : ∃ x, y0.alloc (.cells zL.toArray 27) = x := ⟨_, rfl⟩
        have lc : Later y0 y1 := hyy ▸ Later.new _ _
        have HB := Lib.hid (show Blk y1 gb zL.toArray 27 from hyy ▸ Blk.new _ _ _ _ hgg.symm)
        have HGB := Lib.hid (show wc.heap.size ≤ gb from hgg ▸ Later.size hS)
        replace hS : (fun W : World => Later wc W) y1 := Later.trans hS lc
        try rw [hgg]
        unfold zL at hyy
        rw [hyy]
        refine hK _ _ hS fun wq hwq => ?_
        subst hwq
        clear hK lc hyy hgg
        (try simp only [Act.put, List.setIfInBounds_toArray, List.set_cons_zero, List.set_cons_succ])
        refine wpAnyK_all (rs := [8, 13]) (by kernel_rfl) (by simp) (fun i hi => ?_)
        simp only [List.mem_cons, List.not_mem_nil, or_false] at hi
        rcases hi with rfl | rfl
        · refine stepK (o := { dst := some 111, op := _, type := _, pos := _, after := _, guard := _ }) rfl (fun K hK => ?_)
          go_simp
          refine (HAP.out _ hS).mono ?_
          intro e y2 hap
          obtain ⟨VA, vn, vcp, vlast, vsb, vpb, vparts, VE, ven, vec, vev, rfl, hv, lc⟩ := hap.v (Later.size hS)
          have HV := Lib.hid hv
          replace hS : (fun W : World => Later wc W) y2 := Later.trans hS lc
          have HB := Lib.hid (HB.out.later lc)
          refine hK _ _ hS fun wq hwq => ?_
          subst hwq
          clear hK hap hv lc
          (try simp only [Act.put, List.setIfInBounds_toArray, List.set_cons_zero, List.set_cons_succ])
          refine wpAnyK_take (fun _ => rfl) (fun _ _ _ h k => h.trans k) (fun _ _ h k => k ▸ h) (i := 9) (oi := { dst := some 102, op := _, type := _, pos := _, after := _, guard := _ }) (v := ?_) rfl (by kernel_rfl) (by kernel_rfl) (by kernel_rfl) (fun _ _ _ h => h) (Or.inl (Or.inl ⟨by rfl, ?_⟩)) hS ?_
          rotate_left
          focus ((intro w hSw; (try dsimp only at hSw); skip; go_simp); (try with_reducible rfl))
          intro wq hwq
          subst hwq
          (try simp only [Act.put, List.setIfInBounds_toArray, List.set_cons_zero, List.set_cons_succ])
          refine wpAnyK_take (fun _ => rfl) (fun _ _ _ h k => h.trans k) (fun _ _ h k => k ▸ h) (i := 10) (oi := { dst := some 112, op := _, type := _, pos := _, after := _, guard := _ }) (v := ?_) rfl (by kernel_rfl) (by kernel_rfl) (by kernel_rfl) (fun _ _ _ h => h) (Or.inl (Or.inl ⟨by rfl, ?_⟩)) hS ?_
          rotate_left
          focus ((intro w hSw; (try dsimp only at hSw); skip; go_simp); (try with_reducible rfl))
          intro wq hwq
          subst hwq
          (try simp only [Act.put, List.setIfInBounds_toArray, List.set_cons_zero, List.set_cons_succ])
          refine wpAnyK_take (fun _ => rfl) (fun _ _ _ h k => h.trans k) (fun _ _ h k => k ▸ h) (i := 11) (oi := { dst := some 113, op := _, type := _, pos := _, after := _, guard := _ }) (v := ?_) rfl (by kernel_rfl) (by kernel_rfl) (by kernel_rfl) (fun _ _ _ h => h) (Or.inl (Or.inl ⟨by rfl, ?_⟩)) hS ?_
          rotate_left
          focus ((intro w hSw; (try dsimp only at hSw); skip; go_simp); (try with_reducible rfl))
          intro wq hwq
          subst hwq
          (try simp only [Act.put, List.setIfInBounds_toArray, List.set_cons_zero, List.set_cons_succ])
          refine wpAnyK_take (fun _ => rfl) (fun _ _ _ h k => h.trans k) (fun _ _ h k => k ▸ h) (i := 12) (oi := { dst := some 114, op := _, type := _, pos := _, after := _, guard := _ }) (v := ?_) rfl (by kernel_rfl) (by kernel_rfl) (by kernel_rfl) (fun _ _ _ h => h) (Or.inl (Or.inl ⟨by rfl, ?_⟩)) hS ?_
          rotate_left
          focus ((intro w hSw; (try dsimp only at hSw); skip; go_simp); (try with_reducible rfl))
          intro wq hwq
          subst hwq
          (try simp only [Act.put, List.setIfInBounds_toArray, List.set_cons_zero, List.set_cons_succ])
          refine wpAnyK_all (rs := [13]) (by kernel_rfl) (by simp) (fun i hi => ?_)
          simp only [List.mem_cons, List.not_mem_nil, or_false] at hi
          subst hi
          refine stepK (o := { dst := some 13, op := _, type := _, pos := _, after := _, guard := _ }) rfl (fun K hK => ?_)
          go_simp
          obtain ⟨ga, hgg⟩ : ∃ x, y2.heap.size = x := ⟨_, rfl⟩
          obtain ⟨y3, hyy⟩ : ∃ x, y2.alloc (.cells zS.toArray 24) = x := ⟨_, rfl⟩
          have lc : Later y2 y3 := hyy ▸ Later.new _ _
          have HA := Lib.hid (show Blk y3 ga zS.toArray 24 from hyy ▸ Blk.new _ _ _ _ hgg.symm)
          have HGA := Lib.hid (show wc.heap.size ≤ ga from hgg ▸ Later.size hS)
          replace hS : (fun W : World => Later wc W) y3 := Later.trans hS lc
          have HV := Lib.hid (HV.out.later lc)
          have HB := Lib.hid (HB.out.later lc)
          try rw [hgg]
          unfold zS at hyy
          rw [hyy]
          refine hK _ _ hS fun wq hwq => ?_
          subst hwq
          clear hK lc hyy hgg
          (try simp only [Act.put, List.setIfInBounds_toArray, List.set_cons_zero, List.set_cons_succ])
          have hab : ga ≠ gb := ne_typ HA.out HB.out (by decide)
          refine wpAnyK_all (rs := [15]) (by kernel_rfl) (by simp) (fun i hi => ?_)
          simp only [List.mem_cons, List.not_mem_nil, or_false] at hi
          subst hi
          refine stepK (o := { dst := none, op := _, type := _, pos := _, after := _, guard := _ }) rfl (fun K hK => ?_)
          rw [if_pos (by rfl)]
          refine wp_store_mid 24 _ _ rfl ga 0 #[.slice VA vn vcp, .int .i64 vlast] rfl rfl (fun j hj => by rw [Nat.zero_add]; have hj2 : j < 2 := hj; exact ⟨by rw [cell_of_row y3 ga j _ _ _ HA.out, Array.getElem?_eq_getElem (by exact hj2)]; rfl, HA.out.frozen j⟩) (by kernel_rfl) (by simp [Value.oneCell']) ?_
          have hA2 := Blk.fill zS [.slice VA vn vcp, .int .i64 vlast] HA.out rfl
          have hB2 := HB.out.aside hab.symm 0 [.slice VA vn vcp, .int .i64 vlast]
          have hV2 := HV.out.fill HA.out (by decide) (by decide) 0 [.slice VA vn vcp, .int .i64 vlast]
          have hS : (fun W : World => Later wc W) (y3.setCells ga 0 [.slice VA vn vcp, .int .i64 vlast]) := Later.fill hS HGA.out 0 _
          refine hK _ _ hS fun wq hwq => ?_
          obtain ⟨z1, hz1⟩ : ∃ x, y3.setCells ga 0 [.slice VA vn vcp, .int .i64 vlast] = x := ⟨_, rfl⟩
          rw [hz1] at hA2 hB2 hV2 hS
          have hz2 : z1 = wq := hz1.symm.trans hwq
          subst hz2
          clear hK hwq hz1
          (try simp only [Act.put])
          refine wpAnyK_all (rs := [16]) (by kernel_rfl) (by simp) (fun i hi => ?_)
          simp only [List.mem_cons, List.not_mem_nil, or_false] at hi
          subst hi
          refine stepK (o := { dst := none, op := _, type := _, pos := _, after := _, guard := _ }) rfl (fun K hK => ?_)
          rw [if_pos (by rfl)]
          refine wp_store_mid 27 _ _ rfl gb 0 #[.int .i64 vsb, .int .i64 vpb, .int .i64 vparts, .slice VE ven vec] rfl rfl (fun j hj => by rw [Nat.zero_add]; have hj2 : j < 4 := hj; exact ⟨by rw [cell_of_row z1 gb j _ _ _ hB2, Array.getElem?_eq_getElem (by exact hj2)]; rfl, hB2.frozen j⟩) (by kernel_rfl) (by simp [Value.oneCell']) ?_
          have hB3 := Blk.fill zL [.int .i64 vsb, .int .i64 vpb, .int .i64 vparts, .slice VE ven vec] hB2 rfl
          have hA3 := hA2.aside hab 0 [.int .i64 vsb, .int .i64 vpb, .int .i64 vparts, .slice VE ven vec]
          have hV3 := hV2.fill hB2 (by decide) (by decide) 0 [.int .i64 vsb, .int .i64 vpb, .int .i64 vparts, .slice VE ven vec]
          have hS : (fun W : World => Later wc W) (z1.setCells gb 0 [.int .i64 vsb, .int .i64 vpb, .int .i64 vparts, .slice VE ven vec]) := Later.fill hS HGB.out 0 _
          refine hK _ _ hS fun wq hwq => ?_
          obtain ⟨z2, hz1⟩ : ∃ x, z1.setCells gb 0 [.int .i64 vsb, .int .i64 vpb, .int .i64 vparts, .slice VE ven vec] = x := ⟨_, rfl⟩
          rw [hz1] at hA3 hB3 hV3 hS
          have hz2 : z2 = wq := hz1.symm.trans hwq
          subst hz2
          clear hK hwq hz1 hA2 hB2 hV2
          (try simp only [Act.put])
          refine wpAnyK_take (fun _ => rfl) (fun _ _ _ h k => h.trans k) (fun _ _ h k => k ▸ h) (i := 17) (oi := { dst := some 15, op := _, type := _, pos := _, after := _, guard := _ }) (v := ?_) rfl (by kernel_rfl) (by kernel_rfl) (by kernel_rfl) (fun _ _ _ h => h) (Or.inl (Or.inl ⟨by rfl, ?_⟩)) hS ?_
          rotate_left
          focus ((intro w hSw; (try dsimp only at hSw); skip; go_simp); (try with_reducible rfl))
          intro wq hwq
          subst hwq
          (try simp only [Act.put, List.setIfInBounds_toArray, List.set_cons_zero, List.set_cons_succ])
          refine wpAnyK_done (by kernel_rfl) ?_ _
          go_wp2_with fail
          go_meet
          exact ⟨ga, gb, VA, vn, vcp, vlast, vsb, vpb, vparts, VE, ven, vec, vev, rfl, rfl, rfl, hV3, hA3, hB3, hab, HGA.out, HGB.out, hS⟩
        · refine stepK (o := { dst := some 13, op := _, type := _, pos := _, after := _, guard := _ }) rfl (fun K hK => ?_)
          go_simp
          obtain ⟨ga, hgg⟩ : ∃ x, y1.heap.size = x := ⟨_, rfl⟩
          obtain ⟨y2, hyy⟩ : ∃ x, y1.alloc (.cells zS.toArray 24) = x := ⟨_, rfl⟩
          have lc : Later y1 y2 := hyy ▸ Later.new _ _
          have HA := Lib.hid (show Blk y2 ga zS.toArray 24 from hyy ▸ Blk.new _ _ _ _ hgg.symm)
          have HGA := Lib.hid (show wc.heap.size ≤ ga from hgg ▸ Later.size hS)
          replace hS : (fun W : World => Later wc W) y2 := Later.trans hS lc
          have HB := Lib.hid (HB.out.later lc)
          try rw [hgg]
          unfold zS at hyy
          rw [hyy]
          refine hK _ _ hS fun wq hwq => ?_
          subst hwq
          clear hK lc hyy hgg
          (try simp only [Act.put, List.setIfInBounds_toArray, List.set_cons_zero, List.set_cons_succ])
          refine wpAnyK_all (rs := [8]) (by kernel_rfl) (by simp) (fun i hi => ?_)
          simp only [List.mem_cons, List.not_mem_nil, or_false] at hi
          subst hi
          refine stepK (o := { dst := some 111, op := _, type := _, pos := _, after := _, guard := _ }) rfl (fun K hK => ?_)
          go_simp
          refine (HAP.out _ hS).mono ?_
          intro e y3 hap
          obtain ⟨VA, vn, vcp, vlast, vsb, vpb, vparts, VE, ven, vec, vev, rfl, hv, lc⟩ := hap.v (Later.size hS)
          have HV := Lib.hid hv
          replace hS : (fun W : World => Later wc W) y3 := Later.trans hS lc
          have HA := Lib.hid (HA.out.later lc)
          have HB := Lib.hid (HB.out.later lc)
          refine hK _ _ hS fun wq hwq => ?_
          subst hwq
          clear hK hap hv lc
          (try simp only [Act.put, List.setIfInBounds_toArray, List.set_cons_zero, List.set_cons_succ])
          refine wpAnyK_take (fun _ => rfl) (fun _ _ _ h k => h.trans k) (fun _ _ h k => k ▸ h) (i := 9) (oi := { dst := some 102, op := _, type := _, pos := _, after := _, guard := _ }) (v := ?_) rfl (by kernel_rfl) (by kernel_rfl) (by kernel_rfl) (fun _ _ _ h => h) (Or.inl (Or.inl ⟨by rfl, ?_⟩)) hS ?_
          rotate_left
          focus ((intro w hSw; (try dsimp only at hSw); skip; go_simp); (try with_reducible rfl))
          intro wq hwq
          subst hwq
          (try simp only [Act.put, List.setIfInBounds_toArray, List.set_cons_zero, List.set_cons_succ])
          refine wpAnyK_take (fun _ => rfl) (fun _ _ _ h k => h.trans k) (fun _ _ h k => k ▸ h) (i := 10) (oi := { dst := some 112, op := _, type := _, pos := _, after := _, guard := _ }) (v := ?_) rfl (by kernel_rfl) (by kernel_rfl) (by kernel_rfl) (fun _ _ _ h => h) (Or.inl (Or.inl ⟨by rfl, ?_⟩)) hS ?_
          rotate_left
          focus ((intro w hSw; (try dsimp only at hSw); skip; go_simp); (try with_reducible rfl))
          intro wq hwq
          subst hwq
          (try simp only [Act.put, List.setIfInBounds_toArray, List.set_cons_zero, List.set_cons_succ])
          refine wpAnyK_take (fun _ => rfl) (fun _ _ _ h k => h.trans k) (fun _ _ h k => k ▸ h) (i := 11) (oi := { dst := some 113, op := _, type := _, pos := _, after := _, guard := _ }) (v := ?_) rfl (by kernel_rfl) (by kernel_rfl) (by kernel_rfl) (fun _ _ _ h => h) (Or.inl (Or.inl ⟨by rfl, ?_⟩)) hS ?_
          rotate_left
          focus ((intro w hSw; (try dsimp only at hSw); skip; go_simp); (try with_reducible rfl))
          intro wq hwq
          subst hwq
          (try simp only [Act.put, List.setIfInBounds_toArray, List.set_cons_zero, List.set_cons_succ])
          refine wpAnyK_take (fun _ => rfl) (fun _ _ _ h k => h.trans k) (fun _ _ h k => k ▸ h) (i := 12) (oi := { dst := some 114, op := _, type := _, pos := _, after := _, guard := _ }) (v := ?_) rfl (by kernel_rfl) (by kernel_rfl) (by kernel_rfl) (fun _ _ _ h => h) (Or.inl (Or.inl ⟨by rfl, ?_⟩)) hS ?_
          rotate_left
          focus ((intro w hSw; (try dsimp only at hSw); skip; go_simp); (try with_reducible rfl))
          intro wq hwq
          subst hwq
          (try simp only [Act.put, List.setIfInBounds_toArray, List.set_cons_zero, List.set_cons_succ])
          have hab : ga ≠ gb := ne_typ HA.out HB.out (by decide)
          refine wpAnyK_all (rs := [15]) (by kernel_rfl) (by simp) (fun i hi => ?_)
          simp only [List.mem_cons, List.not_mem_nil, or_false] at hi
          subst hi
          refine stepK (o := { dst := none, op := _, type := _, pos := _, after := _, guard := _ }) rfl (fun K hK => ?_)
          rw [if_pos (by rfl)]
          refine wp_store_mid 24 _ _ rfl ga 0 #[.slice VA vn vcp, .int .i64 vlast] rfl rfl (fun j hj => by rw [Nat.zero_add]; have hj2 : j < 2 := hj; exact ⟨by rw [cell_of_row y3 ga j _ _ _ HA.out, Array.getElem?_eq_getElem (by exact hj2)]; rfl, HA.out.frozen j⟩) (by kernel_rfl) (by simp [Value.oneCell']) ?_
          have hA2 := Blk.fill zS [.slice VA vn vcp, .int .i64 vlast] HA.out rfl
          have hB2 := HB.out.aside hab.symm 0 [.slice VA vn vcp, .int .i64 vlast]
          have hV2 := HV.out.fill HA.out (by decide) (by decide) 0 [.slice VA vn vcp, .int .i64 vlast]
          have hS : (fun W : World => Later wc W) (y3.setCells ga 0 [.slice VA vn vcp, .int .i64 vlast]) := Later.fill hS HGA.out 0 _
          refine hK _ _ hS fun wq hwq => ?_
          obtain ⟨z1, hz1⟩ : ∃ x, y3.setCells ga 0 [.slice VA vn vcp, .int .i64 vlast] = x := ⟨_, rfl⟩
          rw [hz1] at hA2 hB2 hV2 hS
          have hz2 : z1 = wq := hz1.symm.trans hwq
          subst hz2
          clear hK hwq hz1
          (try simp only [Act.put])
          refine wpAnyK_all (rs := [16]) (by kernel_rfl) (by simp) (fun i hi => ?_)
          simp only [List.mem_cons, List.not_mem_nil, or_false] at hi
          subst hi
          refine stepK (o := { dst := none, op := _, type := _, pos := _, after := _, guard := _ }) rfl (fun K hK => ?_)
          rw [if_pos (by rfl)]
          refine wp_store_mid 27 _ _ rfl gb 0 #[.int .i64 vsb, .int .i64 vpb, .int .i64 vparts, .slice VE ven vec] rfl rfl (fun j hj => by rw [Nat.zero_add]; have hj2 : j < 4 := hj; exact ⟨by rw [cell_of_row z1 gb j _ _ _ hB2, Array.getElem?_eq_getElem (by exact hj2)]; rfl, hB2.frozen j⟩) (by kernel_rfl) (by simp [Value.oneCell']) ?_
          have hB3 := Blk.fill zL [.int .i64 vsb, .int .i64 vpb, .int .i64 vparts, .slice VE ven vec] hB2 rfl
          have hA3 := hA2.aside hab 0 [.int .i64 vsb, .int .i64 vpb, .int .i64 vparts, .slice VE ven vec]
          have hV3 := hV2.fill hB2 (by decide) (by decide) 0 [.int .i64 vsb, .int .i64 vpb, .int .i64 vparts, .slice VE ven vec]
          have hS : (fun W : World => Later wc W) (z1.setCells gb 0 [.int .i64 vsb, .int .i64 vpb, .int .i64 vparts, .slice VE ven vec]) := Later.fill hS HGB.out 0 _
          refine hK _ _ hS fun wq hwq => ?_
          obtain ⟨z2, hz1⟩ : ∃ x, z1.setCells gb 0 [.int .i64 vsb, .int .i64 vpb, .int .i64 vparts, .slice VE ven vec] = x := ⟨_, rfl⟩
          rw [hz1] at hA3 hB3 hV3 hS
          have hz2 : z2 = wq := hz1.symm.trans hwq
          subst hz2
          clear hK hwq hz1 hA2 hB2 hV2
          (try simp only [Act.put])
          refine wpAnyK_take (fun _ => rfl) (fun _ _ _ h k => h.trans k) (fun _ _ h k => k ▸ h) (i := 17) (oi := { dst := some 15, op := _, type := _, pos := _, after := _, guard := _ }) (v := ?_) rfl (by kernel_rfl) (by kernel_rfl) (by kernel_rfl) (fun _ _ _ h => h) (Or.inl (Or.inl ⟨by rfl, ?_⟩)) hS ?_
          rotate_left
          focus ((intro w hSw; (try dsimp only at hSw); skip; go_simp); (try with_reducible rfl))
          intro wq hwq
          subst hwq
          (try simp only [Act.put, List.setIfInBounds_toArray, List.set_cons_zero, List.set_cons_succ])
          refine wpAnyK_done (by kernel_rfl) ?_ _
          go_wp2_with fail
          go_meet
          exact ⟨ga, gb, VA, vn, vcp, vlast, vsb, vpb, vparts, VE, ven, vec, vev, rfl, rfl, rfl, hV3, hA3, hB3, hab, HGA.out, HGB.out, hS⟩
    case rest =>
    obtain ⟨g3, g4, VA2, vn2, cp2, la2, sb2, pb2, pa2, VE2, en2, ec2, e2, rfl, rfl, rfl, hv, hA, hB, hne, hg1, hg2, lx⟩ := hcut
    rcases hv with ⟨kk, hkk2, -⟩ | ⟨s2, gv2, ge2, hs2', rfl, rfl, rfl, rfl, rfl, rfl, rfl, rfl, rfl, o1, o2, -⟩
    · rw [HS2.out] at hkk2; cases hkk2
    have hs2'' := HS2.out
    rw [hs2'] at hs2''
    injection hs2'' with hs2''
    subst hs2''
    have HA2 := Lib.hid hA
    have HB2 := Lib.hid hB
    have P1 := Lib.hid (Has.ownG o1)
    have P2 := Lib.hid (Has.ownG o2)
    have HLT2 := Lib.hid (HLT1.out.trans lx)
    have HLX2 := Lib.hid ((HLAT.out.trans HLX.out).trans lx)
    have HBS4 := Lib.hid (HBS3.out.later (HLX.out.trans lx))
    have HBL4 := Lib.hid (HBL3.out.later (HLX.out.trans lx))
    have OV8 := Lib.hid (OV7.out.later (HLX.out.trans lx))
    have OE8 := Lib.hid (OE7.out.later (HLX.out.trans lx))
    clear hA hB hne hg1 hg2 lx o1 o2 hs2' HAP HS2 HCB1 HBB1 HA1 HB1 O1 O2 HBS3 HBL3 OV7 OE7 HLX HLAT HLT1
    have HSS := Lib.hid (sameSchema_any (some ⟨gv2, 0, none⟩) (some ⟨gv, 0, none⟩) s2.1.length s2.1.length cp2 vc s2.2.1 s2.2.1 s2.1 s2.1 wc rfl rfl P1.out OV8.out (by have := HLEN.out.1; omega))
    have e0 := HA2.out.cell 0 _ rfl
    have e1 := HA2.out.cell 1 _ rfl
    have d0' := HBS4.out.cell 0 _ rfl
    have d1' := HBS4.out.cell 1 _ rfl
    go_wp2_with fail
    refine HSS.out.mono ?_
    rintro e w8 ht
    obtain ⟨rfl, l8⟩ := ht.yes (by simp)
    have HSL := Lib.hid (sameLayout_any (some ⟨ge2, 0, none⟩) (some ⟨ge, 0, none⟩) s2.2.2.enc.length s2.2.2.enc.length ec2 ec s2.2.2 s2.2.2 w8 rfl rfl (P2.out.later l8) (OE8.out.later l8) (by have := HLEN.out.2; omega))
    have c0 := (HB2.out.later l8).cell 0 _ rfl
    have c1 := (HB2.out.later l8).cell 1 _ rfl
    have c2 := (HB2.out.later l8).cell 2 _ rfl
    have c3 := (HB2.out.later l8).cell 3 _ rfl
    have x0 := (HBL4.out.later l8).cell 0 _ rfl
    have x1 := (HBL4.out.later l8).cell 1 _ rfl
    have x2 := (HBL4.out.later l8).cell 2 _ rfl
    have x3 := (HBL4.out.later l8).cell 3 _ rfl
    have HL8 := Lib.hid (HLX2.out.trans l8)
    clear ht l8 HSS e0 e1 d0' d1'
    go_wp2_with fail
    refine HSL.out.mono ?_
    rintro e w9 ht
    obtain ⟨rfl, l9⟩ := ht.yes (by simp)
    have HL9 := Lib.hid (HL8.out.trans l9)
    clear ht l9 HSL c0 c1 c2 c3 x0 x1 x2 x3
    go_wp2_with fail
    go_roundw
    case rel => exact ⟨k + 1, hlt, by go_num, HL9.out⟩
    case measure => simp [intOf]; omega
end Go.Proofs.YtklohbglkbhjhaaDoor
