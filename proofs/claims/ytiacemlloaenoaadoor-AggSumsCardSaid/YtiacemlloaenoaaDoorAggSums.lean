/- The walk of AggSums. (tools/gen_aggsums.py) -/
import Derived.Test.YtiacemlloaenoaaDoorSumM
import Derived.Test.YtiacemlloaenoaaDoorPlayB
import Derived.Test.YtiacemlloaenoaaDoorStepN
import Derived.Test.YtiacemlloaenoaaDoorKripke
import Derived.Deep.CutBlock
import Derived.Deep.CutRange
namespace Go.Proofs.YtiacemlloaenoaaDoor
open Go.RowKit
set_option linter.unusedVariables false

/-- Small signed numbers as they come in. -/
theorem of_rowS {w : World} {a : Option Addr} {len cap : Nat} {zs : List Int}
    (h : (a = none ∧ len = 0 ∧ cap = 0 ∧ zs = []) ∨
      ∃ x, a = some x ∧ len ≤ cap ∧ cap ≤ maxLen ∧ zs.length = cap ∧ (∀ i, i < zs.length → w.cell? (x.add i) = some (.int .i8 (zs.getD i 0))) ∧ ∀ n ∈ zs, (Lit.int .i8 n).wf = true) :
    ∃ l : List Int, l.length = len ∧ (∀ x ∈ l, -128 ≤ x ∧ x ≤ 127) ∧ Has w a (l.map (Value.int .i8)) := by
  rcases h with ⟨rfl, rfl, rfl, rfl⟩ | ⟨x, rfl, hl, hm, hz, hc, hw⟩
  · exact ⟨[], rfl, by simp, .inl rfl⟩
  · refine ⟨zs.take len, by simp; omega, fun y hy => ?_, ?_⟩
    · have := hw y (List.mem_of_mem_take hy)
      simp [Lit.wf, IntKind.min, IntKind.max, IntKind.signed, IntKind.bits] at this
      omega
    · rcases Nat.eq_zero_or_pos len with rfl | hp
      · left; simp
      · obtain ⟨b, off, spot⟩ := x
        have h0 := hc 0 (by omega)
        have hspot : spot = none := by simpa [Addr.add] using World.cell?_spot h0
        subst hspot
        have hadd : ∀ i, (⟨b, off, none⟩ : Addr).add i = ⟨b, off + i, none⟩ := add_plain b off
        have hb := block_lt_of_cell h0
        rw [hadd] at hb
        refine .inr ⟨b, off, rfl, hb, fun i v hv => ?_⟩
        have hi' : i < len := by
          have := (List.getElem?_eq_some_iff.1 hv).1
          rw [List.length_map, List.length_take] at this
          omega
        have h1 := hc i (by omega)
        rw [hadd] at h1
        rw [h1, ← hv]
        simp [hi', List.getD_eq_getElem?_getD, List.getElem?_eq_getElem (show i < zs.length by omega)]
/-- The column that the law lays behind: a small number, or nothing for a 7. -/
def colV (i : Int) : Val3 := if i = 7 then z3 else (2, i, ⟨#[]⟩)
theorem colV_sane {l : List Int} (h : ∀ x ∈ l, -128 ≤ x ∧ x ≤ 127) : Sane (l.map colV) := by
  intro v hv
  obtain ⟨i, hi, rfl⟩ := List.mem_map.1 hv
  unfold colV
  split
  · exact .inl rfl
  · exact .inr ⟨rfl, h i hi⟩
theorem Has.i8 {w : World} {A : Option Addr} {l : List Int} (h : Has w A (l.map (Value.int .i8))) (k : Nat) (hk : k < l.length) : ∃ b off, A = some ⟨b, off, none⟩ ∧ w.cell? ⟨b, off + k, none⟩ = some (.int .i8 l[k]) := by
  obtain ⟨b, off, hA, _, hc⟩ := h.at_ (k := k) (by rw [List.length_map]; exact hk)
  refine ⟨b, off, hA, ?_⟩
  rw [hc]; simp
theorem heightC_same (l : List (List Val3)) (N : Nat) (h0 : l ≠ []) (h : ∀ x ∈ l, x.length = N) : heightC l = N := by
  have key : ∀ (r : List (List Val3)) (n : Nat), n = N → (∀ x ∈ r, x.length = N) → r.foldl (fun n x => min n x.length) n = N := by
    intro r
    induction r with
    | nil => intro n hn _; exact hn
    | cons c r ih => intro n hn hr; exact ih _ (by show min n c.length = N; rw [hr c (by simp), hn, Nat.min_self]) fun x hx => hr x (by simp [hx])
  cases l with
  | nil => exact absurd rfl h0
  | cons c r => exact key r _ (h c (by simp)) fun x hx => h x (by simp [hx])
/-- Where the loop stands that makes the column. -/
def XcI (l : List Int) (W : World) (xv iv : Value) (wr : World) : Prop :=
  ∃ (k n : Nat) (A : Option Addr) (c : Nat), xv = .slice A n c ∧ iv = .int .i64 k ∧ k ≤ 20 ∧ n = k ∧ wr.ownsRow W.heap.size 40 3 (.slice A n c) n (fl ((l.map colV).take k)) ∧ (A = none → c = 0) ∧ Later W wr
theorem XcI.mk {l : List Int} {W wr : World} (y : Int) (k n : Nat) (A : Option Addr) (c : Nat) (hy : y = (k : Int)) (hk : k ≤ 20) (hn : n = k) (ho : wr.ownsRow W.heap.size 40 3 (.slice A n c) n (fl ((l.map colV).take k))) (hnil : A = none → c = 0) (L : Later W wr) : XcI l W (.slice A n c) (.int .i64 y) wr := by
  subst hy; exact ⟨k, n, A, c, rfl, rfl, hk, hn, ho, hnil, L⟩
theorem info_cva : (Tryd.prog.info? 37).map (fun i => (i.zero, i.size, i.bytes)) = some (some (.slice none 0 0), 1, 24) := by kernel_rfl
/-- What the law's calls of Run give. -/
def SumP (cols : List (List Val3)) (x : List Val3) (bys : List Int) (w : World) (e : Ending) (w' : World) : Prop :=
  ∃ (R : List (List Nat)) (Y : Option Addr) (yc : Nat) (rs : List SlV), GroupsOf (cols ++ [x]) bys 20 R ∧ e = .returned (.tuple #[.slice Y rs.length yc, .int .i64 0]) ∧
    rs.map (·.l) = R.map (fun ps => bys.map (fun c => cellAt (cols ++ [x]) c (ps.getD 0 0)) ++ fiveV x ps) ∧ RowsAt w' Y rs ∧ Later w w'
theorem sums_call (A Bp Gp : Option Addr) (n c bn bc gc vn : Nat) (zs : List SlV) (xa : Option Addr) (xc : Nat) (x : List Val3) (bys : List Int) (a0 a1 a2 : Addr) (w : World) (hS : S24 w a0 a1 a2) (hz : zs.length = vn) (hv : 2 ≤ vn ∧ vn ≤ 4) (hn : n = vn + 1) (hr : RowsAt w A (zs ++ [⟨xa, xc, x⟩]))
    (hbn : bn = bys.length) (hbl : bn ≤ 1) (hb : Has w Bp (iin bys)) (hg : Has w Gp (fa (aggs5 (vn : Int)))) (hby : ∀ c ∈ bys, 0 ≤ c ∧ c < (vn : Int)) (hx : Sane x) (hx20 : x.length = 20) (h20 : ∀ s ∈ zs, s.l.length = 20 ∧ ∀ v ∈ s.l, v.2.2.size ≤ 1000 ∧ In64 v.2.1) :
    Calls Tryd.prog 8 #[.slice A n c, .slice Bp bn bc, .slice Gp 5 gc] w (SumP (colsOf zs) x bys w) := by
  have hlen : (zs ++ [(⟨xa, xc, x⟩ : SlV)]).length = vn + 1 := by rw [List.length_append, hz]; rfl
  have hcols : colsOf (zs ++ [(⟨xa, xc, x⟩ : SlV)]) = colsOf zs ++ [x] := by unfold colsOf; rw [List.map_append]; rfl
  have hall : ∀ s ∈ zs ++ [(⟨xa, xc, x⟩ : SlV)], s.l.length = 20 := fun s hs => by
    rcases List.mem_append.1 hs with h | h
    · exact (h20 s h).1
    · rw [List.mem_singleton] at h; subst h; exact hx20
  have hh : heightC (colsOf (zs ++ [(⟨xa, xc, x⟩ : SlV)])) = 20 := heightC_same _ 20 (by rw [hcols]; simp) fun y hy => by
    obtain ⟨s, hs, rfl⟩ := List.mem_map.1 hy
    exact hall s hs
  have h64 : ∀ s ∈ zs ++ [(⟨xa, xc, x⟩ : SlV)], ∀ v ∈ s.l, -9223372036854775808 ≤ v.2.1 ∧ v.2.1 ≤ 9223372036854775807 := fun s hs v hv => by
    rcases List.mem_append.1 hs with h | h
    · exact ((h20 s h).2 v hv).2
    · rw [List.mem_singleton] at h; subst h
      rcases hx v hv with h | ⟨_, h1, h2⟩
      · subst h; exact ⟨by decide, by decide⟩
      · omega
  refine (aggRun_any A Bp Gp n c bn bc 5 gc (zs ++ [⟨xa, xc, x⟩]) bys (aggs5 (vn : Int)) a0 a1 a2 w hS (by rw [hlen, hn]) (by omega) hbn (by omega) rfl (by omega) hr hb hg (fun s hs => by rw [hall s hs]; omega) (by omega) h64).mono ?_
  have hok : RunOk ((zs ++ [(⟨xa, xc, x⟩ : SlV)]).length : Int) bys (aggs5 (vn : Int)) := by
    rw [hlen]
    refine ⟨fun c hc => by have := hby c hc; omega, fun a ha => ?_⟩
    simp only [aggs5, List.mem_cons, List.not_mem_nil, or_false] at ha
    unfold AggOk
    rcases ha with rfl | rfl | rfl | rfl | rfl <;> (dsimp only; omega)
  rintro e w' (⟨h, _⟩ | ⟨_, R, hR, h⟩)
  · exact absurd hok h
  rw [hh] at hR
  rw [hcols] at hR h
  have hrun := run_five (cols := colsOf zs) (x := x) (vn : Int) (by unfold colsOf; rw [List.length_map, hz]) hx bys R fun ps hps => by
    have := hR.row_le ps hps; omega
  rcases h with ⟨Y, yc, rs, rfl, hrs, hat, _, _, l⟩ | ⟨n', hn', _⟩
  · rw [hrun] at hrs
    injection hrs with hrs
    exact ⟨R, Y, yc, rs, hR, rfl, hrs.symm, hat, l⟩
  · rw [hrun] at hn'; cases hn'
/-- Where the law's sums stand. -/
def SmI (x : List Val3) (R : List (List Nat)) (W : World) (rv sv uv lv mv iv : Value) (wr : World) : Prop :=
  ∃ (k : Nat) (r s u lo hi : Int), rv = .int .i64 r ∧ sv = .int .i64 s ∧ uv = .int .i64 u ∧ lv = .int .i64 lo ∧ mv = .int .i64 hi ∧ iv = .int .i64 k ∧ k ≤ R.length ∧ Sums x (qk R k) r s u lo hi ∧ Later W wr
theorem SmI.mk {x : List Val3} {R : List (List Nat)} {W wr : World} (y : Int) (k : Nat) (r s u lo hi : Int) (hy : y = (k : Int)) (hk : k ≤ R.length) (h : Sums x (qk R k) r s u lo hi) (L : Later W wr) : SmI x R W (.int .i64 r) (.int .i64 s) (.int .i64 u) (.int .i64 lo) (.int .i64 hi) (.int .i64 y) wr := by
  subst hy; exact ⟨k, r, s, u, lo, hi, rfl, rfl, rfl, rfl, rfl, rfl, hk, h, L⟩
theorem row6 {w : World} {A : Option Addr} {c0 x1 x2 x3 x4 x5 : Val3} (h : Has w A (fl ([c0] ++ [x1, x2, x3, x4, x5]))) : ∃ b off, A = some ⟨b, off, none⟩ ∧ w.cell? ⟨b, off + 3 + 1, none⟩ = some (.int .i64 x1.2.1) ∧ w.cell? ⟨b, off + 6 + 1, none⟩ = some (.int .i64 x2.2.1) ∧ w.cell? ⟨b, off + 9 + 1, none⟩ = some (.int .i64 x3.2.1) ∧ w.cell? ⟨b, off + 12, none⟩ = some (.int .i64 x4.1) ∧
    w.cell? ⟨b, off + 12 + 1, none⟩ = some (.int .i64 x4.2.1) ∧ w.cell? ⟨b, off + 15 + 1, none⟩ = some (.int .i64 x5.2.1) := by
  rcases h with h | ⟨b, off, hA, _, hc⟩
  · simp [fl] at h
  · exact ⟨b, off, hA, hc 4 _ rfl, hc 7 _ rfl, hc 10 _ rfl, hc 12 _ rfl, hc 13 _ rfl, hc 16 _ rfl⟩
theorem row5 {w : World} {A : Option Addr} {x1 x2 x3 x4 x5 : Val3} (h : Has w A (fl [x1, x2, x3, x4, x5])) : ∃ b off, A = some ⟨b, off, none⟩ ∧ w.cell? ⟨b, off + 1, none⟩ = some (.int .i64 x1.2.1) ∧ w.cell? ⟨b, off + 3 + 1, none⟩ = some (.int .i64 x2.2.1) ∧ w.cell? ⟨b, off + 6 + 1, none⟩ = some (.int .i64 x3.2.1) ∧ w.cell? ⟨b, off + 9 + 1, none⟩ = some (.int .i64 x4.2.1) ∧ w.cell? ⟨b, off + 12 + 1, none⟩ = some (.int .i64 x5.2.1) := by
  rcases h with h | ⟨b, off, hA, _, hc⟩
  · simp [fl] at h
  · exact ⟨b, off, hA, hc 1 _ rfl, hc 4 _ rfl, hc 7 _ rfl, hc 10 _ rfl, hc 13 _ rfl⟩

set_option maxRecDepth 100000 in
theorem aggSums_long (A N0 : Option Addr) (n c nn nc : Nat) (b : Int) (a0 a1 a2 : Addr) (w : World) (hs : S24 w a0 a1 a2) (h : ¬ (n ≤ 150 ∧ 20 ≤ nn)) :
    Calls Tryd.prog 3 #[.slice A n c, .int .u8 b, .slice N0 nn nc] w fun e w' => e = .returned (.bool true) ∧ Later w w' := by
  have HB := Lib.hid (begun24_any a0 a1 a2 w hs)
  clear hs
  go_enter Tryd.func3, Tryd.ntmps3
  go_wp2_with fail
  refine HB.out.mono ?_
  rintro e w1 ⟨rfl, l1⟩
  by_cases h1 : n ≤ 150
  · have d1 : decide ((150 : Int) < (n : Int)) = false := by simp; omega
    have d2 : decide ((nn : Int) < 20) = true := by simp; omega
    clear h
    go_wp2_with fail
    go_ret
    exact ⟨rfl, l1⟩
  · have d1 : decide ((150 : Int) < (n : Int)) = true := by simp; omega
    clear h
    go_wp2_with fail
    go_ret
    exact ⟨rfl, l1⟩

set_option maxRecDepth 100000 in
set_option maxHeartbeats 8000000 in
theorem aggSums_walk (A N0 : Option Addr) (n c nn nc : Nat) (bs : List Nat) (b : Nat) (nums : List Int) (a0 a1 a2 : Addr) (w : World) (hs : S24 w a0 a1 a2) (hb : bs.length = n) (hn : n ≤ 150) (hr : Has w A (ints .u8 bs)) (h256 : ∀ x ∈ bs, x < 256) (hbb : b < 256) (hnn : nums.length = nn) (hn20 : 20 ≤ nn) (hrn : Has w N0 (nums.map (Value.int .i8))) (h128 : ∀ x ∈ nums, -128 ≤ x ∧ x ≤ 127) :
    Calls Tryd.prog 3 #[.slice A n c, .int .u8 b, .slice N0 nn nc] w fun e w' => e = .returned (.bool true) ∧ Later w w' := by
  have HB := Lib.hid (begun24_any a0 a1 a2 w hs)
  have HS := Lib.hid hs
  have HR := Lib.hid hr
  have HRN := Lib.hid hrn
  have H128 := Lib.hid h128
  have HNN := Lib.hid hnn
  have hc : PkC n bs := ⟨by omega, hb, h256⟩
  have HCC := Lib.hid hc
  clear hr h256 hb hc hs hrn h128 hnn
  go_enter Tryd.func3, Tryd.ntmps3
  go_wp2_with fail
  refine HB.out.mono ?_
  rintro e w1 ⟨rfl, l1⟩
  have HL1 := Lib.hid l1
  have HR1 := Lib.hid (HR.out.later l1)
  obtain ⟨g, hg⟩ : ∃ g, w1.heap.size = g := ⟨_, rfl⟩
  clear l1 HB HR
  have hn60 : decide ((150 : Int) < (n : Int)) = false := by simp; omega
  have hn61 : decide ((nn : Int) < 20) = false := by simp; omega
  go_wp2_with (go_at_call 5; refine (made_any A n c _).mono ?_; rintro e w2 ⟨rfl, hw2⟩)
  have l2 : Later w1 w2 := hw2 ▸ Later.new _ _
  have HPK2 := Lib.hid (show Pks w2 g A n c bs from ⟨⟨0, Nat.zero_le _, hw2 ▸ Blk.new _ _ _ g hg.symm⟩, by
    have h := HR1.out
    rcases h with h | ⟨b, off, hA, hb, hcc⟩
    · exact .inl h
    · exact .inr ⟨b, off, hA, by omega, fun k v hv => l2.cell (hcc k v hv)⟩⟩)
  have HL2 := Lib.hid l2
  have HPK2L := Lib.hid HPK2.out.lt
  have HG0 := Lib.hid hg
  clear l2 hw2 HR1 hg hn60 hn61
  go_wp2_with fail
  refine (schema_any g A n c bs w2 HCC.out HPK2.out).mono ?_
  rintro e w3 ⟨t0, m, ts, V, vc, es, E, ec, d0, d1, d2, rfl, ⟨hm, htl, ht0, hts⟩, ⟨hes, het, hlay⟩, rs⟩
  obtain ⟨cols, hcols⟩ : ∃ x, playCols t0 m ts = x := ⟨_, rfl⟩
  rw [hcols] at rs
  have hcl : cols.length = m + 2 := by rw [← hcols, playCols_len, htl]
  obtain ⟨vn, hvn⟩ : ∃ x, m + 2 = x := ⟨_, rfl⟩
  rw [hvn] at rs hcl
  rw [hvn]
  have hvb : 2 ≤ vn ∧ vn ≤ 4 := by omega
  obtain ⟨q, hq⟩ : ∃ q, b % vn = q := ⟨_, rfl⟩
  have hqv : q < vn := hq ▸ Nat.mod_lt _ (by omega)
  have hrem : (b : Int).tmod (vn : Int) = (q : Int) := by rw [Int.tmod_eq_emod_of_nonneg (by omega), ← hq]; simp
  have hwq : IntKind.i64.wrap (q : Int) = (q : Int) := IntWalk.i64_in _ ⟨by omega, by omega⟩
  have hwb : IntKind.i64.wrap (b : Int) = (b : Int) := IntWalk.i64_in _ ⟨by omega, by omega⟩
  have hwvn : IntKind.i64.wrap (vn : Int) = (vn : Int) := IntWalk.i64_in _ ⟨by omega, by omega⟩
  have hv0 : ((vn : Int) == 0) = false := by simp; omega
  clear hq
  have HCL := Lib.hid hcl
  have hVX : HasX (some g) w3 V (fc cols) := HasX.own rs.oV fun _ h => by injection h with h; rw [← h]; exact rs.far.1
  obtain ⟨gs, hgs⟩ : ∃ x, w3.heap.size = x := ⟨_, rfl⟩
  obtain ⟨w4, hw4⟩ : ∃ x : World, (w3.alloc (.cells #[.slice V vn vc, .int .i64 vn] 29)).alloc (.cells #[.int .i64 d0, .int .i64 d1, .int .i64 d2, .slice E vn ec] 32) = x := ⟨_, rfl⟩
  have l4 : Later w3 w4 := hw4 ▸ (Later.new _ _).alloc _
  have HS4 := Lib.hid (show Blk w4 gs #[.slice V vn vc, .int .i64 vn] 29 from hw4 ▸ (Blk.new w3 _ _ gs hgs.symm).later (Later.new _ _))
  have HP4 := Lib.hid (rs.pk.later l4)
  have HF4 := Lib.hid (rs.far.later l4)
  have HV4 := Lib.hid (hVX.later l4)
  have HW4 := Lib.hid hw4
  clear hcols hvn hcl l4 rs hts het hlay hes ht0 htl HPK2 hVX hw4
  have s0 := HS4.out.cell 0 _ rfl
  have s1 := HS4.out.cell 1 _ rfl
  have HBT := Lib.hid (batch_any 20 g A n c bs V vn vc (vn : Int) cols w4 HCC.out HP4.out HCL.out.symm (by omega) (by omega) HV4.out)
  go_wp2_with fail
  rw [HW4.out]
  refine HBT.out.mono ?_
  rintro e w5 ⟨gc, zs, rfl, hzl, hzr, hz20, ⟨B0, hB0, hon⟩, hp5, hf5⟩
  have HZL := Lib.hid hzl
  have HZ20 := Lib.hid hz20
  have HON := Lib.hid hon
  have HGC := Lib.hid (show w.heap.size ≤ B0 from by have h1 := (HL1.out.trans (HF4.out.out HG0.out.symm HL2.out)).size; omega)
  have HL5 := Lib.hid (HL1.out.trans ((HF4.out.trans hf5).out HG0.out.symm HL2.out))
  have HI0 := Lib.hid (XcI.mk (l := nums) (W := w5) (wr := w5) 0 0 0 none 0 rfl (Nat.zero_le _) rfl (ownG_nil _ _ _ _) (fun _ => rfl) (Later.refl _))
  clear hzl hzr hz20 hon hB0 hp5 hf5 HBT HP4 HF4 HV4 HS4 s0 s1 hgs HPK2L HCC HL1 HL2 HG0 HCL HW4
  go_wp2_with fail
  go_loopw [11, 12] (fun xv iv wr => XcI nums w5 xv iv wr) (fun _ i _ => 20 - (intOf i).toNat)
  case atStart => exact HI0.out
  case round =>
    obtain ⟨k, m', X, xc, rfl, rfl, hk, hm', hown, hnil, lat⟩ := hrel
    have HOWN := Lib.hid hown
    have HNIL := Lib.hid hnil
    have hnil' := hnil
    have HM' := Lib.hid hm'
    have HLAT := Lib.hid lat
    have hmb : m' ≤ 20 := by omega
    clear HI0 hown hnil hm'
    by_cases hlt : k < 20
    · have hkl : k < nums.length := by have := HNN.out; omega
      obtain ⟨nb, no, hNA, cn⟩ := (HRN.out.later (HL5.out.trans lat)).i8 k hkl
      subst hNA
      have hv := H128.out _ (List.getElem_mem hkl)
      have HTK := Lib.hid (show (nums.map colV).take (k + 1) = (nums.map colV).take k ++ [colV nums[k]] from by
        rw [List.take_succ_eq_append_getElem (by rw [List.length_map]; exact hkl), List.getElem_map])
      generalize nums[k] = v at cn hv HTK
      have hwv : IntKind.i64.wrap v = v := IntWalk.i64_in _ ⟨by omega, by omega⟩
      have hkn : (k : Int) < (nn : Int) := by omega
      have hk20 : (k : Int) < 20 := by omega
      have cn2 := (Later.new wr (.cells #[.int .i64 2, .int .i64 v, .string ⟨#[]⟩] 40)).cell cn
      have hs1 := lat.size
      clear lat
      by_cases h7 : v = 7
      · subst h7
        have HCV := Lib.hid (show colV 7 = z3 from by unfold colV; rw [if_pos rfl])
        rw [HCV.out] at HTK
        have HBK := Lib.hid (Blk.new (wr.alloc (.cells #[.int .i64 0, .int .i64 0, .string ⟨#[]⟩] 40)) #[.int .i64 0, .int .i64 0, .string ⟨#[]⟩] 40 (wr.heap.size + 1) (by simp))
        have HOB := Lib.hid (fun (o o' : Obj) => own_later HOWN.out ((Later.new wr o).alloc o'))
        go_wp2_with (at_builtin; refine wpList_append_g _ rfl (.tmp 62) (.tmp 64) 37 rfl w5.heap.size 40 _ 3 32 Tryd.underlying37 info_v rfl (by decide) _ m' _ rfl (HOB.out _ _) _ 1 1 (fl [z3]) rfl HBK.out.has rfl (by intro h; cases h) (fl_one _) (by unfold maxLen; omega) (by omega) (by simp; omega) ?_; rintro A' c' wq hO _ hbel hn2; have HO2 := Lib.hid hO; have HN2 := Lib.hid hn2; have HL3 := Lib.hid (show Later w5 wq from Later.of ((((HLAT.out.trans (Later.new wr _)).alloc _).below).trans hbel)); clear hO hn2 hbel)
        go_roundw
        case rel =>
          refine XcI.mk _ (k + 1) _ _ _ (by go_num) hlt (by have := HM'.out; omega) ?_ HN2.out HL3.out
          rw [HTK.out, fl_append]
          exact HO2.out
        case measure => simp [intOf]; omega
      · have h7b : (v == 7) = false := by simp [h7]
        have H7 := Lib.hid h7
        clear h7
        have HCV := Lib.hid (show colV v = (2, v, ⟨#[]⟩) from by unfold colV; rw [if_neg H7.out])
        rw [HCV.out] at HTK
        have HBK := Lib.hid (Blk.new (wr.alloc (.cells #[.int .i64 2, .int .i64 v, .string ⟨#[]⟩] 40)) #[.int .i64 2, .int .i64 v, .string ⟨#[]⟩] 40 (wr.heap.size + 1) (by simp))
        have HOB := Lib.hid (fun (o o' : Obj) => own_later HOWN.out ((Later.new wr o).alloc o'))
        go_wp2_with (at_builtin; refine wpList_append_g _ rfl (.tmp 62) (.tmp 64) 37 rfl w5.heap.size 40 _ 3 32 Tryd.underlying37 info_v rfl (by decide) _ m' _ rfl (HOB.out _ _) _ 1 1 (fl [(2, v, ⟨#[]⟩)]) rfl HBK.out.has rfl (by intro h; cases h) (fl_one _) (by unfold maxLen; omega) (by omega) (by simp; omega) ?_; rintro A' c' wq hO _ hbel hn2; have HO2 := Lib.hid hO; have HN2 := Lib.hid hn2; have HL3 := Lib.hid (show Later w5 wq from Later.of ((((HLAT.out.trans (Later.new wr _)).alloc _).below).trans hbel)); clear hO hn2 hbel)
        go_roundw
        case rel =>
          refine XcI.mk _ (k + 1) _ _ _ (by go_num) hlt (by have := HM'.out; omega) ?_ HN2.out HL3.out
          rw [HTK.out, fl_append]
          exact HO2.out
        case measure => simp [intOf]; omega
    · obtain rfl : k = 20 := by omega
      obtain rfl : m' = 20 := HM'.out
      obtain ⟨xl, hxl⟩ : ∃ x, (nums.map colV).take 20 = x := ⟨_, rfl⟩
      have HX := Lib.hid (show Sane xl from by
        rw [← hxl]
        exact fun v hv => colV_sane H128.out v (List.mem_of_mem_take hv))
      have hx20 : xl.length = 20 := by rw [← hxl, List.length_take, List.length_map, HNN.out]; omega
      have HX20 := Lib.hid hx20
      rw [hxl] at HOWN
      have hon2 := HON.out.later lat
      have hgcl : gc < w5.heap.size := (HON.out.2.1.lt gc rfl).2
      have HOKR := Lib.hid (show (⟨X, xc, xl⟩ : SlV).okX (Value.slice (some ⟨gc, 0, none⟩) vn vn).ownBlock wr from SlV.okX.own HOWN.out hx20.symm hnil' fun q' hq' => by have hq' : some gc = some q' := hq'; injection hq' with hq'; omega)
      have HOA := Lib.hid (fun (o : Obj) => hon2.later (Later.new wr o))
      have HOKA := Lib.hid (fun (o : Obj) => HOKR.out.later (Later.new wr o))
      have HSZ := Lib.hid (show B0 ≤ wr.heap.size from by have h1 := (HON.out.2.1.lt gc rfl).1; have h2 := lat.size; omega)
      have HRL := Lib.hid (show (⟨X, xc, xl⟩ : SlV).v = .slice X 20 xc by rw [SlV.v_eq, HX20.out])
      have HBK := Lib.hid (fun (wz : World) => Blk.new wz #[.slice X 20 xc] 37 wz.heap.size rfl)
      have HL6 := Lib.hid (HL5.out.trans lat)
      have hk0 : ¬ ((20 : Nat) : Int) < 20 := by omega
      clear hxl hx20 hon2 hgcl lat HOKR HON HOWN HLAT HRN H128 HNN HNIL hnil'
      go_wp2_with (at_builtin; refine wpList_append_x _ rfl (.tmp 66) (.tmp 68) 35 rfl B0 37 _ 1 24 Tryd.underlying35 info_cva rfl (by decide) _ vn _ rfl (HOA.out _).2.1 _ 0 1 1 [.slice X 20 xc] rfl (HBK.out wr).has rfl (by intro u hu; rw [List.mem_singleton] at hu; subst hu; rfl) (by unfold maxLen; omega) (by omega) (by have := HSZ.out; simp; omega) ?_; rintro A' c' wq hO hgr hbel hat hn2; have HO2 := Lib.hid (ColsOn.more (s := ⟨X, xc, xl⟩) (HOA.out _) (HOKA.out _) (by rw [HRL.out]; exact hO) hgr hat hn2); have HL7 := Lib.hid (show Later w wq from Later.of ((HL6.out.trans (Later.new wr _)).below.trans (hbel.mono HGC.out))); clear hO hn2 hbel hgr hat)
      have HGA := Lib.hid HO2.out.at_
      obtain ⟨ga, hga⟩ : ∃ x, wq.heap.size = x := ⟨_, rfl⟩
      obtain ⟨w7, hw7⟩ : ∃ x : World, (wq.alloc (.cells (fa (aggs5 (vn : Int))).toArray 42)).alloc (.cells #[.int .i64 (q : Int)] 3) = x := ⟨_, rfl⟩
      have l7 : Later wq w7 := hw7 ▸ (Later.new _ _).alloc _
      have b1 : Blk w7 ga (fa (aggs5 (vn : Int))).toArray 42 := hw7 ▸ (Blk.new wq _ _ _ hga.symm).later (Later.new _ _)
      have b2 : Blk w7 (ga + 1) #[.int .i64 (q : Int)] 3 := hw7 ▸ Blk.new _ _ _ _ (by simp; omega)
      have HAG := Lib.hid (show Has w7 (some ⟨ga, 0, none⟩) (fa (aggs5 (vn : Int))) from b1.has)
      have HR1 := Lib.hid (sums_call A' (some ⟨ga + 1, 0, none⟩) (some ⟨ga, 0, none⟩) (vn + 1) c' 1 1 5 vn zs X xc xl [(q : Int)] a0 a1 a2 w7 (HS.out.later (HL7.out.trans l7)) HZL.out hvb rfl (HGA.out.later l7) rfl (Nat.le_refl _) (show Has w7 (some ⟨ga + 1, 0, none⟩) (iin [(q : Int)]) from b2.has) HAG.out (fun c hc => by rw [List.mem_singleton] at hc; subst hc; omega) HX.out HX20.out HZ20.out)
      have HL8 := Lib.hid (HL7.out.trans l7)
      have HGB := Lib.hid (HGA.out.later l7)
      have HW7 := Lib.hid hw7
      have HGAE := Lib.hid hga
      clear hw7 hga b1 b2 l7 HGA HO2 HL7
      all_goals go_wp2_with fail
      rw [HGAE.out]
      have hw7 := HW7.out
      simp only [fa, aggs5, List.flatMap_cons, List.flatMap_nil, List.cons_append, List.nil_append, List.append_nil] at hw7
      rw [hw7]
      clear hw7 HW7 HGAE
      refine HR1.out.mono ?_
      rintro e w8 ⟨R, Y, yc, rs, hR, rfl, hrs, hat, l8⟩
      have HRS := Lib.hid hrs
      have HRG := Lib.hid hR
      have hNR0 : rs.length = R.length := by have h := congrArg List.length hrs; rw [List.length_map, List.length_map] at h; exact h
      obtain ⟨NR, hNR⟩ : ∃ x, rs.length = x := ⟨_, rfl⟩
      rw [hNR] at hNR0 ⊢
      have HNR := Lib.hid hNR
      have HNR0 := Lib.hid hNR0
      have HAT := Lib.hid hat
      have HR2 := Lib.hid (sums_call A' none (some ⟨ga, 0, none⟩) (vn + 1) c' 0 0 5 vn zs X xc xl [] a0 a1 a2 w8 (HS.out.later (HL8.out.trans l8)) HZL.out hvb rfl (HGB.out.later l8) rfl (by omega) (.inl rfl) (HAG.out.later l8) (fun c hc => by cases hc) HX.out HX20.out HZ20.out)
      have HL9 := Lib.hid (HL8.out.trans l8)
      clear hR hrs hNR hNR0 hat l8 HR1 HL8 HAG HGB
      go_wp2_with fail
      refine HR2.out.mono ?_
      rintro e w9 ⟨R2, Y2, y2c, rs2, hR2, rfl, hrs2, hat2, l9⟩
      obtain rfl : R2 = [List.range 20] := by
        rcases hR2 with ⟨_, h⟩ | ⟨h, _⟩
        · exact h
        · exact absurd rfl h
      obtain ⟨t, rfl, htl⟩ := one_row (show rs2.map (·.l) = [fiveV xl (List.range 20)] from hrs2)
      have hat20 := hat2.2 t (by simp)
      obtain ⟨yb, yo, hY2, cy, _⟩ := hat2.get 0 (by simp)
      subst hY2
      replace cy : w9.cell? ⟨yb, yo, none⟩ = some (.slice t.a 5 t.c) := by
        have h : w9.cell? ⟨yb, yo + 0, none⟩ = some (.slice t.a t.l.length t.c) := cy
        rw [htl] at h
        exact h
      obtain ⟨mb, mo, hta, m0, m1, m2, m3, m4⟩ := row5 (show Has w9 t.a (fl (fiveV xl (List.range 20))) by have h := hat20.1.has; rw [htl] at h; exact h)
      generalize t.c = tc at cy
      rw [hta] at cy
      have HCY := Lib.hid (show CellIs w9 ⟨yb, yo, none⟩ _ from cy)
      have HM0 := Lib.hid (show CellIs w9 _ _ from m0)
      have HM1 := Lib.hid (show CellIs w9 _ _ from m1)
      have HM2 := Lib.hid (show CellIs w9 _ _ from m2)
      have HM3 := Lib.hid (show CellIs w9 _ _ from m3)
      have HM4 := Lib.hid (show CellIs w9 _ _ from m4)
      have HATL := Lib.hid (HAT.out.later l9)
      have HLF := Lib.hid (HL9.out.trans l9)
      have HI1 := Lib.hid (SmI.mk (x := xl) (R := R) (W := w9) (wr := w9) 0 0 0 0 0 1000 (-1000) rfl (Nat.zero_le _) (Sums.zero xl) (Later.refl _))
      clear hR2 hrs2 hat2 hat20 l9 hta m0 m1 m2 m3 m4 HR2 HL9 HAT htl
      go_wp2_with fail
      go_loopw [20, 21, 22, 23, 24, 25] (fun rv sv uv lv mv iv wr => SmI xl R w9 rv sv uv lv mv iv wr) (fun _ _ _ _ _ i _ => NR - (intOf i).toNat)
      case atStart => exact HI1.out
      case round =>
        obtain ⟨k, r, s, u, lo, hi, rfl, rfl, rfl, rfl, rfl, rfl, hk, hsm, lat⟩ := hrel
        have HSM := Lib.hid hsm
        have HLT := Lib.hid lat
        clear HI1 hsm cy
        by_cases hlt : k < NR
        · have hkr : k < R.length := by have := HNR0.out; omega
          have hks : k < rs.length := by have := HNR.out; omega
          have hkz : (k : Int) < (NR : Int) := by omega
          have hkb : (k : Int) ≤ 20 := by have := HRG.out.mem.2; omega
          obtain ⟨xb, xo, hYA, cx, hxr, -, -, -⟩ := (HATL.out.later lat).get k hks
          subst hYA
          have hrow : rs[k].l = [cellAt (colsOf zs ++ [xl]) (q : Int) (R[k].getD 0 0)] ++ fiveV xl R[k] := by
            have h : (rs.map (·.l))[k]? = (R.map (fun ps => [(q : Int)].map (fun c => cellAt (colsOf zs ++ [xl]) c (ps.getD 0 0)) ++ fiveV xl ps))[k]? := by rw [HRS.out]
            rw [List.getElem?_map, List.getElem?_map, List.getElem?_eq_getElem hks, List.getElem?_eq_getElem hkr] at h
            simpa using h
          have hps := HRG.out.row_le _ (List.getElem_mem hkr)
          have HQ := Lib.hid (qk_succ R k hkr)
          have hrl : rs[k].l.length = 6 := by rw [hrow]; rfl
          replace cx : wr.cell? ⟨xb, xo + k, none⟩ = some (.slice rs[k].a 6 rs[k].c) := by rw [cx, hrl]
          obtain ⟨rb, ro, hra, c1, c2, c3, c4, c5, c6⟩ := row6 (show Has wr rs[k].a (fl ([cellAt (colsOf zs ++ [xl]) (q : Int) (R[k].getD 0 0)] ++ fiveV xl R[k])) by rw [← hrow]; exact hxr)
          rw [hra] at cx
          have HCX := Lib.hid (show CellIs wr ⟨xb, xo + k, none⟩ _ from cx)
          have hql : (qk R k ++ R[k]).length ≤ 20 := by
            rw [← HQ.out]
            have h1 := qk_len R (k + 1)
            have h2 := (groups_flat HRG.out).length_eq
            rw [List.length_range] at h2
            omega
          have HYES := Lib.hid (fun (h : (leastV 1 (pickN xl R[k])).1 ≠ 0) => HSM.out.some_ HX.out R[k] h)
          have HNOT := Lib.hid (fun (h : (leastV 1 (pickN xl R[k])).1 = 0) => HSM.out.none_ HX.out R[k] h)
          rw [← HQ.out] at HYES HNOT
          obtain ⟨B1, B2, B3⟩ := five_bound HX.out R[k] hps
          obtain ⟨⟨r0, r1⟩, ⟨s0, s1⟩, ⟨u0, u1⟩, ⟨lo0, lo1⟩, ⟨hi0, hi1⟩⟩ := HSM.out.bound HX.out (by have := hql; rw [List.length_append] at this; omega)
          generalize rs[k].c = rc at HCX
          clear hrow hrl hra cx hxr HQ hql lat
          have hp1 : 0 ≤ ((R[k].length : Nat) : Int) ∧ ((R[k].length : Nat) : Int) ≤ 20 := by omega
          generalize ((R[k].length : Nat) : Int) = p1 at c1 HYES HNOT hp1
          have hp2 : 0 ≤ (((pickN xl R[k]).length : Nat) : Int) ∧ (((pickN xl R[k]).length : Nat) : Int) ≤ 20 := by omega
          generalize (((pickN xl R[k]).length : Nat) : Int) = p2 at c2 HYES HNOT hp2
          generalize (sumO (pickN xl R[k])).2.1 = p3 at c3 HYES HNOT B2
          generalize (leastV 1 (pickN xl R[k])).1 = t4 at c4 HYES HNOT B3
          generalize (leastV 1 (pickN xl R[k])).2.1 = p4 at c5 HYES B3
          generalize (leastV (-1) (pickN xl R[k])).2.1 = p5 at c6 HYES B3
          have HW1 := Lib.hid (show IntKind.i64.wrap (r + p1) = r + p1 from IntWalk.i64_in _ ⟨by omega, by omega⟩)
          have HW2 := Lib.hid (show IntKind.i64.wrap (s + p2) = s + p2 from IntWalk.i64_in _ ⟨by omega, by omega⟩)
          have HW3 := Lib.hid (show IntKind.i64.wrap (u + p3) = u + p3 from IntWalk.i64_in _ ⟨by omega, by omega⟩)
          have HC1 := Lib.hid (show CellIs wr _ _ from c1)
          have HC2 := Lib.hid (show CellIs wr _ _ from c2)
          have HC3 := Lib.hid (show CellIs wr _ _ from c3)
          have HC4 := Lib.hid (show CellIs wr _ _ from c4)
          have HC5 := Lib.hid (show CellIs wr _ _ from c5)
          have HC6 := Lib.hid (show CellIs wr _ _ from c6)
          have cx := HCX.out.out
          clear c1 c2 c3 c4 c5 c6 hp1 hp2 B1 B2 HSM hps hks hkr
          go_upto_region 30 with fail
          clear cx
          go_cut [20, 21, 22] from 130 to 156 (fun v1 v2 v3 wx => v1 = .int .i64 (r + p1) ∧ v2 = .int .i64 (s + p2) ∧ v3 = .int .i64 (u + p3) ∧ Later wr wx)
          case first => as_aux_lemma =>
            refine wp_region_K (S := (fun W : World => Later wr W)) (R := fun a b => a = b) (fun _ => rfl) (by kernel_rfl) ?_
            obtain ⟨y0, hy0⟩ : ∃ x, (wr).drew = x := ⟨_, rfl⟩
            have ly0 : Later wr y0 := hy0 ▸ (Later.refl wr).drew
            have hS : (fun W : World => Later wr W) y0 := ly0
            
            rw [hy0]
            clear hy0
            refine wpAnyK_take (fun _ => rfl) (fun _ _ _ h k => h.trans k) (fun _ _ h k => k ▸ h) (i := 0) (oi := { dst := some 130, op := _, type := _, pos := _, after := _, guard := _ }) (v := ?_) rfl (by kernel_rfl) (by kernel_rfl) (by kernel_rfl) (fun _ _ _ h => h) (Or.inl (Or.inl ⟨by rfl, ?_⟩)) hS ?_
            rotate_left
            focus ((intro w hSw; (try dsimp only at hSw); skip; go_simp); (try with_reducible rfl))
            intro wq hwq
            subst hwq
            (try simp only [Act.put, List.setIfInBounds_toArray, List.set_cons_zero, List.set_cons_succ])
            refine wpAnyK_take (fun _ => rfl) (fun _ _ _ h k => h.trans k) (fun _ _ h k => k ▸ h) (i := 1) (oi := { dst := some 131, op := _, type := _, pos := _, after := _, guard := _ }) (v := ?_) rfl (by kernel_rfl) (by kernel_rfl) (by kernel_rfl) (fun _ _ _ h => h) (Or.inl (Or.inl ⟨by rfl, ?_⟩)) hS ?_
            rotate_left
            focus ((intro w hSw; (try dsimp only at hSw); skip; go_simp); (try with_reducible rfl))
            intro wq hwq
            subst hwq
            (try simp only [Act.put, List.setIfInBounds_toArray, List.set_cons_zero, List.set_cons_succ])
            refine wpAnyK_take (fun _ => rfl) (fun _ _ _ h k => h.trans k) (fun _ _ h k => k ▸ h) (i := 2) (oi := { dst := some 132, op := _, type := _, pos := _, after := _, guard := _ }) (v := ?_) rfl (by kernel_rfl) (by kernel_rfl) (by kernel_rfl) (fun _ _ _ h => h) (Or.inl (Or.inl ⟨by rfl, ?_⟩)) hS ?_
            rotate_left
            focus ((intro w hSw; (try dsimp only at hSw); skip; go_simp); (try with_reducible rfl))
            intro wq hwq
            subst hwq
            (try simp only [Act.put, List.setIfInBounds_toArray, List.set_cons_zero, List.set_cons_succ])
            refine wpAnyK_take (fun _ => rfl) (fun _ _ _ h k => h.trans k) (fun _ _ h k => k ▸ h) (i := 3) (oi := { dst := some 133, op := _, type := _, pos := _, after := _, guard := _ }) (v := ?_) rfl (by kernel_rfl) (by kernel_rfl) (by kernel_rfl) (fun _ _ _ h => h) (Or.inl (Or.inl ⟨by rfl, ?_⟩)) hS ?_
            rotate_left
            focus ((intro w hSw; (try dsimp only at hSw); skip; go_simp); (try with_reducible rfl))
            intro wq hwq
            subst hwq
            (try simp only [Act.put, List.setIfInBounds_toArray, List.set_cons_zero, List.set_cons_succ])
            refine wpAnyK_take (fun _ => rfl) (fun _ _ _ h k => h.trans k) (fun _ _ h k => k ▸ h) (i := 4) (oi := { dst := some 134, op := _, type := _, pos := _, after := _, guard := _ }) (v := ?_) rfl (by kernel_rfl) (by kernel_rfl) (by kernel_rfl) (fun _ _ _ h => h) (Or.inl (Or.inl ⟨by rfl, ?_⟩)) hS ?_
            rotate_left
            focus ((intro w hSw; (try dsimp only at hSw); have cx := HCX.out.later hSw; have cx := cx.out; go_simp); (try with_reducible rfl))
            intro wq hwq
            subst hwq
            (try simp only [Act.put, List.setIfInBounds_toArray, List.set_cons_zero, List.set_cons_succ])
            refine wpAnyK_take (fun _ => rfl) (fun _ _ _ h k => h.trans k) (fun _ _ h k => k ▸ h) (i := 5) (oi := { dst := some 135, op := _, type := _, pos := _, after := _, guard := _ }) (v := ?_) rfl (by kernel_rfl) (by kernel_rfl) (by kernel_rfl) (fun _ _ _ h => h) (Or.inl (Or.inl ⟨by rfl, ?_⟩)) hS ?_
            rotate_left
            focus ((intro w hSw; (try dsimp only at hSw); skip; go_simp); (try with_reducible rfl))
            intro wq hwq
            subst hwq
            (try simp only [Act.put, List.setIfInBounds_toArray, List.set_cons_zero, List.set_cons_succ])
            refine wpAnyK_take (fun _ => rfl) (fun _ _ _ h k => h.trans k) (fun _ _ h k => k ▸ h) (i := 6) (oi := { dst := some 136, op := _, type := _, pos := _, after := _, guard := _ }) (v := ?_) rfl (by kernel_rfl) (by kernel_rfl) (by kernel_rfl) (fun _ _ _ h => h) (Or.inl (Or.inl ⟨by rfl, ?_⟩)) hS ?_
            rotate_left
            focus ((intro w hSw; (try dsimp only at hSw); skip; go_simp); (try with_reducible rfl))
            intro wq hwq
            subst hwq
            (try simp only [Act.put, List.setIfInBounds_toArray, List.set_cons_zero, List.set_cons_succ])
            refine wpAnyK_take (fun _ => rfl) (fun _ _ _ h k => h.trans k) (fun _ _ h k => k ▸ h) (i := 7) (oi := { dst := some 137, op := _, type := _, pos := _, after := _, guard := _ }) (v := ?_) rfl (by kernel_rfl) (by kernel_rfl) (by kernel_rfl) (fun _ _ _ h => h) (Or.inl (Or.inl ⟨by rfl, ?_⟩)) hS ?_
            rotate_left
            focus ((intro w hSw; (try dsimp only at hSw); have cc := HC1.out.later hSw; have cc := cc.out; go_simp); (try with_reducible rfl))
            intro wq hwq
            subst hwq
            (try simp only [Act.put, List.setIfInBounds_toArray, List.set_cons_zero, List.set_cons_succ])
            refine wpAnyK_take (fun _ => rfl) (fun _ _ _ h k => h.trans k) (fun _ _ h k => k ▸ h) (i := 8) (oi := { dst := some 138, op := _, type := _, pos := _, after := _, guard := _ }) (v := ?_) rfl (by kernel_rfl) (by kernel_rfl) (by kernel_rfl) (fun _ _ _ h => h) (Or.inl (Or.inl ⟨by rfl, ?_⟩)) hS ?_
            rotate_left
            focus ((intro w hSw; (try dsimp only at hSw); have hh := HW1.out; go_simp); (try with_reducible rfl))
            intro wq hwq
            subst hwq
            (try simp only [Act.put, List.setIfInBounds_toArray, List.set_cons_zero, List.set_cons_succ])
            refine wpAnyK_take (fun _ => rfl) (fun _ _ _ h k => h.trans k) (fun _ _ h k => k ▸ h) (i := 9) (oi := { dst := some 139, op := _, type := _, pos := _, after := _, guard := _ }) (v := ?_) rfl (by kernel_rfl) (by kernel_rfl) (by kernel_rfl) (fun _ _ _ h => h) (Or.inl (Or.inl ⟨by rfl, ?_⟩)) hS ?_
            rotate_left
            focus ((intro w hSw; (try dsimp only at hSw); skip; go_simp); (try with_reducible rfl))
            intro wq hwq
            subst hwq
            (try simp only [Act.put, List.setIfInBounds_toArray, List.set_cons_zero, List.set_cons_succ])
            refine wpAnyK_take (fun _ => rfl) (fun _ _ _ h k => h.trans k) (fun _ _ h k => k ▸ h) (i := 10) (oi := { dst := some 140, op := _, type := _, pos := _, after := _, guard := _ }) (v := ?_) rfl (by kernel_rfl) (by kernel_rfl) (by kernel_rfl) (fun _ _ _ h => h) (Or.inl (Or.inl ⟨by rfl, ?_⟩)) hS ?_
            rotate_left
            focus ((intro w hSw; (try dsimp only at hSw); skip; go_simp); (try with_reducible rfl))
            intro wq hwq
            subst hwq
            (try simp only [Act.put, List.setIfInBounds_toArray, List.set_cons_zero, List.set_cons_succ])
            refine wpAnyK_take (fun _ => rfl) (fun _ _ _ h k => h.trans k) (fun _ _ h k => k ▸ h) (i := 11) (oi := { dst := some 141, op := _, type := _, pos := _, after := _, guard := _ }) (v := ?_) rfl (by kernel_rfl) (by kernel_rfl) (by kernel_rfl) (fun _ _ _ h => h) (Or.inl (Or.inl ⟨by rfl, ?_⟩)) hS ?_
            rotate_left
            focus ((intro w hSw; (try dsimp only at hSw); skip; go_simp); (try with_reducible rfl))
            intro wq hwq
            subst hwq
            (try simp only [Act.put, List.setIfInBounds_toArray, List.set_cons_zero, List.set_cons_succ])
            refine wpAnyK_take (fun _ => rfl) (fun _ _ _ h k => h.trans k) (fun _ _ h k => k ▸ h) (i := 12) (oi := { dst := some 142, op := _, type := _, pos := _, after := _, guard := _ }) (v := ?_) rfl (by kernel_rfl) (by kernel_rfl) (by kernel_rfl) (fun _ _ _ h => h) (Or.inl (Or.inl ⟨by rfl, ?_⟩)) hS ?_
            rotate_left
            focus ((intro w hSw; (try dsimp only at hSw); skip; go_simp); (try with_reducible rfl))
            intro wq hwq
            subst hwq
            (try simp only [Act.put, List.setIfInBounds_toArray, List.set_cons_zero, List.set_cons_succ])
            refine wpAnyK_take (fun _ => rfl) (fun _ _ _ h k => h.trans k) (fun _ _ h k => k ▸ h) (i := 13) (oi := { dst := some 143, op := _, type := _, pos := _, after := _, guard := _ }) (v := ?_) rfl (by kernel_rfl) (by kernel_rfl) (by kernel_rfl) (fun _ _ _ h => h) (Or.inl (Or.inl ⟨by rfl, ?_⟩)) hS ?_
            rotate_left
            focus ((intro w hSw; (try dsimp only at hSw); have cx := HCX.out.later hSw; have cx := cx.out; go_simp); (try with_reducible rfl))
            intro wq hwq
            subst hwq
            (try simp only [Act.put, List.setIfInBounds_toArray, List.set_cons_zero, List.set_cons_succ])
            refine wpAnyK_take (fun _ => rfl) (fun _ _ _ h k => h.trans k) (fun _ _ h k => k ▸ h) (i := 14) (oi := { dst := some 144, op := _, type := _, pos := _, after := _, guard := _ }) (v := ?_) rfl (by kernel_rfl) (by kernel_rfl) (by kernel_rfl) (fun _ _ _ h => h) (Or.inl (Or.inl ⟨by rfl, ?_⟩)) hS ?_
            rotate_left
            focus ((intro w hSw; (try dsimp only at hSw); skip; go_simp); (try with_reducible rfl))
            intro wq hwq
            subst hwq
            (try simp only [Act.put, List.setIfInBounds_toArray, List.set_cons_zero, List.set_cons_succ])
            refine wpAnyK_take (fun _ => rfl) (fun _ _ _ h k => h.trans k) (fun _ _ h k => k ▸ h) (i := 15) (oi := { dst := some 145, op := _, type := _, pos := _, after := _, guard := _ }) (v := ?_) rfl (by kernel_rfl) (by kernel_rfl) (by kernel_rfl) (fun _ _ _ h => h) (Or.inl (Or.inl ⟨by rfl, ?_⟩)) hS ?_
            rotate_left
            focus ((intro w hSw; (try dsimp only at hSw); skip; go_simp); (try with_reducible rfl))
            intro wq hwq
            subst hwq
            (try simp only [Act.put, List.setIfInBounds_toArray, List.set_cons_zero, List.set_cons_succ])
            refine wpAnyK_take (fun _ => rfl) (fun _ _ _ h k => h.trans k) (fun _ _ h k => k ▸ h) (i := 16) (oi := { dst := some 146, op := _, type := _, pos := _, after := _, guard := _ }) (v := ?_) rfl (by kernel_rfl) (by kernel_rfl) (by kernel_rfl) (fun _ _ _ h => h) (Or.inl (Or.inl ⟨by rfl, ?_⟩)) hS ?_
            rotate_left
            focus ((intro w hSw; (try dsimp only at hSw); have cc := HC2.out.later hSw; have cc := cc.out; go_simp); (try with_reducible rfl))
            intro wq hwq
            subst hwq
            (try simp only [Act.put, List.setIfInBounds_toArray, List.set_cons_zero, List.set_cons_succ])
            refine wpAnyK_take (fun _ => rfl) (fun _ _ _ h k => h.trans k) (fun _ _ h k => k ▸ h) (i := 17) (oi := { dst := some 147, op := _, type := _, pos := _, after := _, guard := _ }) (v := ?_) rfl (by kernel_rfl) (by kernel_rfl) (by kernel_rfl) (fun _ _ _ h => h) (Or.inl (Or.inl ⟨by rfl, ?_⟩)) hS ?_
            rotate_left
            focus ((intro w hSw; (try dsimp only at hSw); have hh := HW2.out; go_simp); (try with_reducible rfl))
            intro wq hwq
            subst hwq
            (try simp only [Act.put, List.setIfInBounds_toArray, List.set_cons_zero, List.set_cons_succ])
            refine wpAnyK_take (fun _ => rfl) (fun _ _ _ h k => h.trans k) (fun _ _ h k => k ▸ h) (i := 18) (oi := { dst := some 148, op := _, type := _, pos := _, after := _, guard := _ }) (v := ?_) rfl (by kernel_rfl) (by kernel_rfl) (by kernel_rfl) (fun _ _ _ h => h) (Or.inl (Or.inl ⟨by rfl, ?_⟩)) hS ?_
            rotate_left
            focus ((intro w hSw; (try dsimp only at hSw); skip; go_simp); (try with_reducible rfl))
            intro wq hwq
            subst hwq
            (try simp only [Act.put, List.setIfInBounds_toArray, List.set_cons_zero, List.set_cons_succ])
            refine wpAnyK_take (fun _ => rfl) (fun _ _ _ h k => h.trans k) (fun _ _ h k => k ▸ h) (i := 19) (oi := { dst := some 149, op := _, type := _, pos := _, after := _, guard := _ }) (v := ?_) rfl (by kernel_rfl) (by kernel_rfl) (by kernel_rfl) (fun _ _ _ h => h) (Or.inl (Or.inl ⟨by rfl, ?_⟩)) hS ?_
            rotate_left
            focus ((intro w hSw; (try dsimp only at hSw); skip; go_simp); (try with_reducible rfl))
            intro wq hwq
            subst hwq
            (try simp only [Act.put, List.setIfInBounds_toArray, List.set_cons_zero, List.set_cons_succ])
            refine wpAnyK_take (fun _ => rfl) (fun _ _ _ h k => h.trans k) (fun _ _ h k => k ▸ h) (i := 20) (oi := { dst := some 150, op := _, type := _, pos := _, after := _, guard := _ }) (v := ?_) rfl (by kernel_rfl) (by kernel_rfl) (by kernel_rfl) (fun _ _ _ h => h) (Or.inl (Or.inl ⟨by rfl, ?_⟩)) hS ?_
            rotate_left
            focus ((intro w hSw; (try dsimp only at hSw); skip; go_simp); (try with_reducible rfl))
            intro wq hwq
            subst hwq
            (try simp only [Act.put, List.setIfInBounds_toArray, List.set_cons_zero, List.set_cons_succ])
            refine wpAnyK_take (fun _ => rfl) (fun _ _ _ h k => h.trans k) (fun _ _ h k => k ▸ h) (i := 21) (oi := { dst := some 151, op := _, type := _, pos := _, after := _, guard := _ }) (v := ?_) rfl (by kernel_rfl) (by kernel_rfl) (by kernel_rfl) (fun _ _ _ h => h) (Or.inl (Or.inl ⟨by rfl, ?_⟩)) hS ?_
            rotate_left
            focus ((intro w hSw; (try dsimp only at hSw); skip; go_simp); (try with_reducible rfl))
            intro wq hwq
            subst hwq
            (try simp only [Act.put, List.setIfInBounds_toArray, List.set_cons_zero, List.set_cons_succ])
            refine wpAnyK_take (fun _ => rfl) (fun _ _ _ h k => h.trans k) (fun _ _ h k => k ▸ h) (i := 22) (oi := { dst := some 152, op := _, type := _, pos := _, after := _, guard := _ }) (v := ?_) rfl (by kernel_rfl) (by kernel_rfl) (by kernel_rfl) (fun _ _ _ h => h) (Or.inl (Or.inl ⟨by rfl, ?_⟩)) hS ?_
            rotate_left
            focus ((intro w hSw; (try dsimp only at hSw); have cx := HCX.out.later hSw; have cx := cx.out; go_simp); (try with_reducible rfl))
            intro wq hwq
            subst hwq
            (try simp only [Act.put, List.setIfInBounds_toArray, List.set_cons_zero, List.set_cons_succ])
            refine wpAnyK_take (fun _ => rfl) (fun _ _ _ h k => h.trans k) (fun _ _ h k => k ▸ h) (i := 23) (oi := { dst := some 153, op := _, type := _, pos := _, after := _, guard := _ }) (v := ?_) rfl (by kernel_rfl) (by kernel_rfl) (by kernel_rfl) (fun _ _ _ h => h) (Or.inl (Or.inl ⟨by rfl, ?_⟩)) hS ?_
            rotate_left
            focus ((intro w hSw; (try dsimp only at hSw); skip; go_simp); (try with_reducible rfl))
            intro wq hwq
            subst hwq
            (try simp only [Act.put, List.setIfInBounds_toArray, List.set_cons_zero, List.set_cons_succ])
            refine wpAnyK_take (fun _ => rfl) (fun _ _ _ h k => h.trans k) (fun _ _ h k => k ▸ h) (i := 24) (oi := { dst := some 154, op := _, type := _, pos := _, after := _, guard := _ }) (v := ?_) rfl (by kernel_rfl) (by kernel_rfl) (by kernel_rfl) (fun _ _ _ h => h) (Or.inl (Or.inl ⟨by rfl, ?_⟩)) hS ?_
            rotate_left
            focus ((intro w hSw; (try dsimp only at hSw); skip; go_simp); (try with_reducible rfl))
            intro wq hwq
            subst hwq
            (try simp only [Act.put, List.setIfInBounds_toArray, List.set_cons_zero, List.set_cons_succ])
            refine wpAnyK_take (fun _ => rfl) (fun _ _ _ h k => h.trans k) (fun _ _ h k => k ▸ h) (i := 25) (oi := { dst := some 155, op := _, type := _, pos := _, after := _, guard := _ }) (v := ?_) rfl (by kernel_rfl) (by kernel_rfl) (by kernel_rfl) (fun _ _ _ h => h) (Or.inl (Or.inl ⟨by rfl, ?_⟩)) hS ?_
            rotate_left
            focus ((intro w hSw; (try dsimp only at hSw); have cc := HC3.out.later hSw; have cc := cc.out; go_simp); (try with_reducible rfl))
            intro wq hwq
            subst hwq
            (try simp only [Act.put, List.setIfInBounds_toArray, List.set_cons_zero, List.set_cons_succ])
            refine wpAnyK_take (fun _ => rfl) (fun _ _ _ h k => h.trans k) (fun _ _ h k => k ▸ h) (i := 26) (oi := { dst := some 156, op := _, type := _, pos := _, after := _, guard := _ }) (v := ?_) rfl (by kernel_rfl) (by kernel_rfl) (by kernel_rfl) (fun _ _ _ h => h) (Or.inl (Or.inl ⟨by rfl, ?_⟩)) hS ?_
            rotate_left
            focus ((intro w hSw; (try dsimp only at hSw); have hh := HW3.out; go_simp); (try with_reducible rfl))
            intro wq hwq
            subst hwq
            (try simp only [Act.put, List.setIfInBounds_toArray, List.set_cons_zero, List.set_cons_succ])
            refine wpAnyK_take (fun _ => rfl) (fun _ _ _ h k => h.trans k) (fun _ _ h k => k ▸ h) (i := 27) (oi := { dst := some 20, op := _, type := _, pos := _, after := _, guard := _ }) (v := ?_) rfl (by kernel_rfl) (by kernel_rfl) (by kernel_rfl) (fun _ _ _ h => h) (Or.inl (Or.inl ⟨by rfl, ?_⟩)) hS ?_
            rotate_left
            focus ((intro w hSw; (try dsimp only at hSw); skip; go_simp); (try with_reducible rfl))
            intro wq hwq
            subst hwq
            (try simp only [Act.put, List.setIfInBounds_toArray, List.set_cons_zero, List.set_cons_succ])
            refine wpAnyK_take (fun _ => rfl) (fun _ _ _ h k => h.trans k) (fun _ _ h k => k ▸ h) (i := 28) (oi := { dst := some 21, op := _, type := _, pos := _, after := _, guard := _ }) (v := ?_) rfl (by kernel_rfl) (by kernel_rfl) (by kernel_rfl) (fun _ _ _ h => h) (Or.inl (Or.inl ⟨by rfl, ?_⟩)) hS ?_
            rotate_left
            focus ((intro w hSw; (try dsimp only at hSw); skip; go_simp); (try with_reducible rfl))
            intro wq hwq
            subst hwq
            (try simp only [Act.put, List.setIfInBounds_toArray, List.set_cons_zero, List.set_cons_succ])
            refine wpAnyK_take (fun _ => rfl) (fun _ _ _ h k => h.trans k) (fun _ _ h k => k ▸ h) (i := 29) (oi := { dst := some 22, op := _, type := _, pos := _, after := _, guard := _ }) (v := ?_) rfl (by kernel_rfl) (by kernel_rfl) (by kernel_rfl) (fun _ _ _ h => h) (Or.inl (Or.inl ⟨by rfl, ?_⟩)) hS ?_
            rotate_left
            focus ((intro w hSw; (try dsimp only at hSw); skip; go_simp); (try with_reducible rfl))
            intro wq hwq
            subst hwq
            (try simp only [Act.put, List.setIfInBounds_toArray, List.set_cons_zero, List.set_cons_succ])
            refine wpAnyK_done (by kernel_rfl) ?_ _
            go_wp2_with fail
            go_meet
            exact ⟨rfl, rfl, rfl, hS⟩
          case rest =>
          obtain ⟨rfl, rfl, rfl, lx⟩ := hcut
          have HCX := Lib.hid (HCX.out.later lx)
          have HC4 := Lib.hid (HC4.out.later lx)
          have HC5 := Lib.hid (HC5.out.later lx)
          have HC6 := Lib.hid (HC6.out.later lx)
          have HLT := Lib.hid (HLT.out.trans lx)
          clear lx HW1 HW2 HW3 HC1 HC2 HC3
          have cx := HCX.out.out
          have c4 := HC4.out.out
          by_cases ht : t4 = 0
          · have htb : (t4 != 0) = false := by simp [ht]
            have HSM := Lib.hid (HNOT.out ht)
            clear ht
            go_wp2_with fail
            go_roundw
            case rel => exact SmI.mk _ (k + 1) _ _ _ _ _ (by go_num) (by have := HNR0.out; omega) HSM.out HLT.out
            case measure => simp [intOf]; omega
          · have htb : (t4 != 0) = true := by simp [ht]
            have HSM := Lib.hid (HYES.out ht)
            clear ht
            go_upto_region 32 with fail
            clear cx c4
            refine wp_region_K (S := (fun W : World => Later wc W)) (R := fun a b => a = b) (fun _ => rfl) (by kernel_rfl) ?_
            obtain ⟨y0, hy0⟩ : ∃ x, (wc).drew = x := ⟨_, rfl⟩
            have ly0 : Later wc y0 := hy0 ▸ (Later.refl wc).drew
            have hS : (fun W : World => Later wc W) y0 := ly0
            
            rw [hy0]
            clear hy0
            refine wpAnyK_take (fun _ => rfl) (fun _ _ _ h k => h.trans k) (fun _ _ h k => k ▸ h) (i := 0) (oi := { dst := some 165, op := _, type := _, pos := _, after := _, guard := _ }) (v := ?_) rfl (by kernel_rfl) (by kernel_rfl) (by kernel_rfl) (fun _ _ _ h => h) (Or.inl (Or.inl ⟨by rfl, ?_⟩)) hS ?_
            rotate_left
            focus ((intro w hSw; (try dsimp only at hSw); skip; go_simp); (try with_reducible rfl))
            intro wq hwq
            subst hwq
            (try simp only [Act.put, List.setIfInBounds_toArray, List.set_cons_zero, List.set_cons_succ])
            refine wpAnyK_take (fun _ => rfl) (fun _ _ _ h k => h.trans k) (fun _ _ h k => k ▸ h) (i := 1) (oi := { dst := some 166, op := _, type := _, pos := _, after := _, guard := _ }) (v := ?_) rfl (by kernel_rfl) (by kernel_rfl) (by kernel_rfl) (fun _ _ _ h => h) (Or.inl (Or.inl ⟨by rfl, ?_⟩)) hS ?_
            rotate_left
            focus ((intro w hSw; (try dsimp only at hSw); skip; go_simp); (try with_reducible rfl))
            intro wq hwq
            subst hwq
            (try simp only [Act.put, List.setIfInBounds_toArray, List.set_cons_zero, List.set_cons_succ])
            refine wpAnyK_take (fun _ => rfl) (fun _ _ _ h k => h.trans k) (fun _ _ h k => k ▸ h) (i := 2) (oi := { dst := some 167, op := _, type := _, pos := _, after := _, guard := _ }) (v := ?_) rfl (by kernel_rfl) (by kernel_rfl) (by kernel_rfl) (fun _ _ _ h => h) (Or.inl (Or.inl ⟨by rfl, ?_⟩)) hS ?_
            rotate_left
            focus ((intro w hSw; (try dsimp only at hSw); skip; go_simp); (try with_reducible rfl))
            intro wq hwq
            subst hwq
            (try simp only [Act.put, List.setIfInBounds_toArray, List.set_cons_zero, List.set_cons_succ])
            refine wpAnyK_take (fun _ => rfl) (fun _ _ _ h k => h.trans k) (fun _ _ h k => k ▸ h) (i := 3) (oi := { dst := some 168, op := _, type := _, pos := _, after := _, guard := _ }) (v := ?_) rfl (by kernel_rfl) (by kernel_rfl) (by kernel_rfl) (fun _ _ _ h => h) (Or.inl (Or.inl ⟨by rfl, ?_⟩)) hS ?_
            rotate_left
            focus ((intro w hSw; (try dsimp only at hSw); skip; go_simp); (try with_reducible rfl))
            intro wq hwq
            subst hwq
            (try simp only [Act.put, List.setIfInBounds_toArray, List.set_cons_zero, List.set_cons_succ])
            refine wpAnyK_take (fun _ => rfl) (fun _ _ _ h k => h.trans k) (fun _ _ h k => k ▸ h) (i := 4) (oi := { dst := some 169, op := _, type := _, pos := _, after := _, guard := _ }) (v := ?_) rfl (by kernel_rfl) (by kernel_rfl) (by kernel_rfl) (fun _ _ _ h => h) (Or.inl (Or.inl ⟨by rfl, ?_⟩)) hS ?_
            rotate_left
            focus ((intro w hSw; (try dsimp only at hSw); have cx := HCX.out.later hSw; have cx := cx.out; go_simp); (try with_reducible rfl))
            intro wq hwq
            subst hwq
            (try simp only [Act.put, List.setIfInBounds_toArray, List.set_cons_zero, List.set_cons_succ])
            refine wpAnyK_take (fun _ => rfl) (fun _ _ _ h k => h.trans k) (fun _ _ h k => k ▸ h) (i := 5) (oi := { dst := some 170, op := _, type := _, pos := _, after := _, guard := _ }) (v := ?_) rfl (by kernel_rfl) (by kernel_rfl) (by kernel_rfl) (fun _ _ _ h => h) (Or.inl (Or.inl ⟨by rfl, ?_⟩)) hS ?_
            rotate_left
            focus ((intro w hSw; (try dsimp only at hSw); skip; go_simp); (try with_reducible rfl))
            intro wq hwq
            subst hwq
            (try simp only [Act.put, List.setIfInBounds_toArray, List.set_cons_zero, List.set_cons_succ])
            refine wpAnyK_take (fun _ => rfl) (fun _ _ _ h k => h.trans k) (fun _ _ h k => k ▸ h) (i := 6) (oi := { dst := some 171, op := _, type := _, pos := _, after := _, guard := _ }) (v := ?_) rfl (by kernel_rfl) (by kernel_rfl) (by kernel_rfl) (fun _ _ _ h => h) (Or.inl (Or.inl ⟨by rfl, ?_⟩)) hS ?_
            rotate_left
            focus ((intro w hSw; (try dsimp only at hSw); skip; go_simp); (try with_reducible rfl))
            intro wq hwq
            subst hwq
            (try simp only [Act.put, List.setIfInBounds_toArray, List.set_cons_zero, List.set_cons_succ])
            refine wpAnyK_take (fun _ => rfl) (fun _ _ _ h k => h.trans k) (fun _ _ h k => k ▸ h) (i := 7) (oi := { dst := some 172, op := _, type := _, pos := _, after := _, guard := _ }) (v := ?_) rfl (by kernel_rfl) (by kernel_rfl) (by kernel_rfl) (fun _ _ _ h => h) (Or.inl (Or.inl ⟨by rfl, ?_⟩)) hS ?_
            rotate_left
            focus ((intro w hSw; (try dsimp only at hSw); have cc := HC5.out.later hSw; have cc := cc.out; go_simp); (try with_reducible rfl))
            intro wq hwq
            subst hwq
            (try simp only [Act.put, List.setIfInBounds_toArray, List.set_cons_zero, List.set_cons_succ])
            refine wpAnyK_take (fun _ => rfl) (fun _ _ _ h k => h.trans k) (fun _ _ h k => k ▸ h) (i := 8) (oi := { dst := some 173, op := _, type := _, pos := _, after := _, guard := _ }) (v := ?_) rfl (by kernel_rfl) (by kernel_rfl) (by kernel_rfl) (fun _ _ _ h => h) (Or.inl (Or.inl ⟨by rfl, ?_⟩)) hS ?_
            rotate_left
            focus ((intro w hSw; (try dsimp only at hSw); skip; go_simp); (try with_reducible rfl))
            intro wq hwq
            subst hwq
            (try simp only [Act.put, List.setIfInBounds_toArray, List.set_cons_zero, List.set_cons_succ])
            refine wpAnyK_take (fun _ => rfl) (fun _ _ _ h k => h.trans k) (fun _ _ h k => k ▸ h) (i := 9) (oi := { dst := some 174, op := _, type := _, pos := _, after := _, guard := _ }) (v := ?_) rfl (by kernel_rfl) (by kernel_rfl) (by kernel_rfl) (fun _ _ _ h => h) (Or.inl (Or.inl ⟨by rfl, ?_⟩)) hS ?_
            rotate_left
            focus ((intro w hSw; (try dsimp only at hSw); skip; go_simp); (try with_reducible rfl))
            intro wq hwq
            subst hwq
            (try simp only [Act.put, List.setIfInBounds_toArray, List.set_cons_zero, List.set_cons_succ])
            refine wpAnyK_take (fun _ => rfl) (fun _ _ _ h k => h.trans k) (fun _ _ h k => k ▸ h) (i := 10) (oi := { dst := some 175, op := _, type := _, pos := _, after := _, guard := _ }) (v := ?_) rfl (by kernel_rfl) (by kernel_rfl) (by kernel_rfl) (fun _ _ _ h => h) (Or.inl (Or.inl ⟨by rfl, ?_⟩)) hS ?_
            rotate_left
            focus ((intro w hSw; (try dsimp only at hSw); skip; go_simp); (try with_reducible rfl))
            intro wq hwq
            subst hwq
            (try simp only [Act.put, List.setIfInBounds_toArray, List.set_cons_zero, List.set_cons_succ])
            refine wpAnyK_take (fun _ => rfl) (fun _ _ _ h k => h.trans k) (fun _ _ h k => k ▸ h) (i := 11) (oi := { dst := some 176, op := _, type := _, pos := _, after := _, guard := _ }) (v := ?_) rfl (by kernel_rfl) (by kernel_rfl) (by kernel_rfl) (fun _ _ _ h => h) (Or.inl (Or.inl ⟨by rfl, ?_⟩)) hS ?_
            rotate_left
            focus ((intro w hSw; (try dsimp only at hSw); skip; go_simp); (try with_reducible rfl))
            intro wq hwq
            subst hwq
            (try simp only [Act.put, List.setIfInBounds_toArray, List.set_cons_zero, List.set_cons_succ])
            refine wpAnyK_take (fun _ => rfl) (fun _ _ _ h k => h.trans k) (fun _ _ h k => k ▸ h) (i := 12) (oi := { dst := some 177, op := _, type := _, pos := _, after := _, guard := _ }) (v := ?_) rfl (by kernel_rfl) (by kernel_rfl) (by kernel_rfl) (fun _ _ _ h => h) (Or.inl (Or.inl ⟨by rfl, ?_⟩)) hS ?_
            rotate_left
            focus ((intro w hSw; (try dsimp only at hSw); skip; go_simp); (try with_reducible rfl))
            intro wq hwq
            subst hwq
            (try simp only [Act.put, List.setIfInBounds_toArray, List.set_cons_zero, List.set_cons_succ])
            refine wpAnyK_take (fun _ => rfl) (fun _ _ _ h k => h.trans k) (fun _ _ h k => k ▸ h) (i := 13) (oi := { dst := some 178, op := _, type := _, pos := _, after := _, guard := _ }) (v := ?_) rfl (by kernel_rfl) (by kernel_rfl) (by kernel_rfl) (fun _ _ _ h => h) (Or.inl (Or.inl ⟨by rfl, ?_⟩)) hS ?_
            rotate_left
            focus ((intro w hSw; (try dsimp only at hSw); have cx := HCX.out.later hSw; have cx := cx.out; go_simp); (try with_reducible rfl))
            intro wq hwq
            subst hwq
            (try simp only [Act.put, List.setIfInBounds_toArray, List.set_cons_zero, List.set_cons_succ])
            refine wpAnyK_take (fun _ => rfl) (fun _ _ _ h k => h.trans k) (fun _ _ h k => k ▸ h) (i := 14) (oi := { dst := some 179, op := _, type := _, pos := _, after := _, guard := _ }) (v := ?_) rfl (by kernel_rfl) (by kernel_rfl) (by kernel_rfl) (fun _ _ _ h => h) (Or.inl (Or.inl ⟨by rfl, ?_⟩)) hS ?_
            rotate_left
            focus ((intro w hSw; (try dsimp only at hSw); skip; go_simp); (try with_reducible rfl))
            intro wq hwq
            subst hwq
            (try simp only [Act.put, List.setIfInBounds_toArray, List.set_cons_zero, List.set_cons_succ])
            refine wpAnyK_take (fun _ => rfl) (fun _ _ _ h k => h.trans k) (fun _ _ h k => k ▸ h) (i := 15) (oi := { dst := some 180, op := _, type := _, pos := _, after := _, guard := _ }) (v := ?_) rfl (by kernel_rfl) (by kernel_rfl) (by kernel_rfl) (fun _ _ _ h => h) (Or.inl (Or.inl ⟨by rfl, ?_⟩)) hS ?_
            rotate_left
            focus ((intro w hSw; (try dsimp only at hSw); skip; go_simp); (try with_reducible rfl))
            intro wq hwq
            subst hwq
            (try simp only [Act.put, List.setIfInBounds_toArray, List.set_cons_zero, List.set_cons_succ])
            refine wpAnyK_take (fun _ => rfl) (fun _ _ _ h k => h.trans k) (fun _ _ h k => k ▸ h) (i := 16) (oi := { dst := some 181, op := _, type := _, pos := _, after := _, guard := _ }) (v := ?_) rfl (by kernel_rfl) (by kernel_rfl) (by kernel_rfl) (fun _ _ _ h => h) (Or.inl (Or.inl ⟨by rfl, ?_⟩)) hS ?_
            rotate_left
            focus ((intro w hSw; (try dsimp only at hSw); have cc := HC6.out.later hSw; have cc := cc.out; go_simp); (try with_reducible rfl))
            intro wq hwq
            subst hwq
            (try simp only [Act.put, List.setIfInBounds_toArray, List.set_cons_zero, List.set_cons_succ])
            refine wpAnyK_take (fun _ => rfl) (fun _ _ _ h k => h.trans k) (fun _ _ h k => k ▸ h) (i := 17) (oi := { dst := some 182, op := _, type := _, pos := _, after := _, guard := _ }) (v := ?_) rfl (by kernel_rfl) (by kernel_rfl) (by kernel_rfl) (fun _ _ _ h => h) (Or.inl (Or.inl ⟨by rfl, ?_⟩)) hS ?_
            rotate_left
            focus ((intro w hSw; (try dsimp only at hSw); skip; go_simp); (try with_reducible rfl))
            intro wq hwq
            subst hwq
            (try simp only [Act.put, List.setIfInBounds_toArray, List.set_cons_zero, List.set_cons_succ])
            refine wpAnyK_take (fun _ => rfl) (fun _ _ _ h k => h.trans k) (fun _ _ h k => k ▸ h) (i := 18) (oi := { dst := some 23, op := _, type := _, pos := _, after := _, guard := _ }) (v := ?_) rfl (by kernel_rfl) (by kernel_rfl) (by kernel_rfl) (fun _ _ _ h => h) (Or.inl (Or.inl ⟨by rfl, ?_⟩)) hS ?_
            rotate_left
            focus ((intro w hSw; (try dsimp only at hSw); skip; go_simp); (try with_reducible rfl))
            intro wq hwq
            subst hwq
            (try simp only [Act.put, List.setIfInBounds_toArray, List.set_cons_zero, List.set_cons_succ])
            refine wpAnyK_take (fun _ => rfl) (fun _ _ _ h k => h.trans k) (fun _ _ h k => k ▸ h) (i := 19) (oi := { dst := some 24, op := _, type := _, pos := _, after := _, guard := _ }) (v := ?_) rfl (by kernel_rfl) (by kernel_rfl) (by kernel_rfl) (fun _ _ _ h => h) (Or.inl (Or.inl ⟨by rfl, ?_⟩)) hS ?_
            rotate_left
            focus ((intro w hSw; (try dsimp only at hSw); skip; go_simp); (try with_reducible rfl))
            intro wq hwq
            subst hwq
            (try simp only [Act.put, List.setIfInBounds_toArray, List.set_cons_zero, List.set_cons_succ])
            refine wpAnyK_done (by kernel_rfl) ?_ _
            go_wp2_with fail
            have HLT := Lib.hid (HLT.out.trans hS)
            clear HCX HC4 HC5 HC6 hS ly0
            go_roundw
            case rel => exact SmI.mk _ (k + 1) _ _ _ _ _ (by go_num) (by have := HNR0.out; omega) HSM.out HLT.out
            case measure => simp [intOf]; omega
        · have hkn : k = R.length := by have := HNR0.out; omega
          have hkz : ¬ (k : Int) < (NR : Int) := by omega
          have hall := Sums.all HX.out (by have h := HSM.out; rw [hkn, qk_all] at h; exact h) (groups_flat HRG.out)
          obtain ⟨e1, e2, e3, e4⟩ := hall
          have m0 : wr.cell? ⟨mb, mo + 1, none⟩ = some (.int .i64 20) := (HM0.out.later lat).out
          have m1 := (HM1.out.later lat).out
          have m2 := (HM2.out.later lat).out
          have m3 := (HM3.out.later lat).out
          have m4 := (HM4.out.later lat).out
          have cy := (HCY.out.later lat).out
          generalize (leastV 1 (pickN xl (List.range 20))).2.1 = l' at m3 e4
          generalize (leastV (-1) (pickN xl (List.range 20))).2.1 = h' at m4 e4
          try dsimp only at m1 m2
          rw [← e2] at m1
          rw [← e3] at m2
          subst e1
          have HLZ := Lib.hid (HLF.out.trans lat)
          clear e2 e3 hkn lat HSM HM0 HM1 HM2 HM3 HM4 HCY HLT hk
          by_cases hs0 : s = 0
          · have hsb : (s == 0) = true := by simp [hs0]
            clear hs0 e4
            go_wp2_with fail
            go_ret
            exact ⟨rfl, HLZ.out⟩
          · have hsb : (s == 0) = false := by simp [hs0]
            obtain ⟨rfl, rfl⟩ := e4.resolve_left hs0
            clear hs0 e4
            go_wp2_with fail
            go_ret
            exact ⟨rfl, HLZ.out⟩
end Go.Proofs.YtiacemlloaenoaaDoor
