/- schema: tell, Apply. (tools/gen_schZ.py) -/
import Derived.Test.YtklohbglkbhjhaaDoorSchY
import Derived.Test.YtklohbglkbhjhaaDoorHeldZ
import Derived.Deep.CutRange
import Derived.Deep.MidRow
namespace Go.Proofs.YtklohbglkbhjhaaDoor
open Go.RowKit
set_option linter.unusedVariables false

set_option maxRecDepth 100000 in
set_option maxHeartbeats 2000000 in
theorem tell_any (W0 : World) (w : World) (f : Int → Addr) (v : Value) (n : Int) (hs : S15 W0 f) (hl : Later W0 w) (hn : n ∈ [(1 : Int), 3, 4, 6, 9]) (hv : Er1 w v (f n)) :
  Calls Tryd.prog 42 #[v] w fun e w' => e = .returned (.int .i64 n) ∧ Later w w' := by
 have S := hs.later hl
 have x3 := S.c3
 have x9 := S.c9
 have x4 := S.c4
 have x6 := S.c6
 obtain ⟨p, rfl, hu⟩ := hv
 have HNO := Lib.hid (fun (m : Int) (hm : m ∈ [(1 : Int), 3, 4, 6, 9]) (hne : n ≠ m) => show Calls Tryd.prog 64 #[.iface 112 (.pointer (some ⟨p, 0, none⟩)), .iface 143 (.pointer (some (f m)))] w fun e w' => e = .returned (.bool false) ∧ w = w' from by
  obtain ⟨ca, ta, ha⟩ := S.blk n hn
  obtain ⟨cb, tb, hb⟩ := S.blk m hm
  exact is_wrap_other p 0 (f m) (f n) ca cb ta tb w hu (S.ne n m hn hm hne) ha hb)
 have HYES := Lib.hid (is_wrap_same p 0 (f n) w hu)
 simp only [List.mem_cons, List.not_mem_nil, or_false] at hn
 clear hs hl S hu
 rcases hn with rfl | rfl | rfl | rfl | rfl
 ·go_enter Tryd.func42, Tryd.ntmps42
  go_wp2_with fail
  refine (HNO.out 3 (by decide) (by decide)).mono ?_
  rintro e w2 ⟨rfl, rfl⟩
  go_wp2_with fail
  refine (HNO.out 9 (by decide) (by decide)).mono ?_
  rintro e w2 ⟨rfl, rfl⟩
  go_wp2_with fail
  refine (HNO.out 4 (by decide) (by decide)).mono ?_
  rintro e w2 ⟨rfl, rfl⟩
  go_wp2_with fail
  refine (HNO.out 6 (by decide) (by decide)).mono ?_
  rintro e w2 ⟨rfl, rfl⟩
  go_wp2_with fail
  go_ret
  exact ⟨rfl, Later.refl _⟩
 ·go_enter Tryd.func42, Tryd.ntmps42
  go_wp2_with fail
  refine HYES.out.mono ?_
  rintro e w2 ⟨rfl, rfl⟩
  go_wp2_with fail
  go_ret
  exact ⟨rfl, Later.refl _⟩
 ·go_enter Tryd.func42, Tryd.ntmps42
  go_wp2_with fail
  refine (HNO.out 3 (by decide) (by decide)).mono ?_
  rintro e w2 ⟨rfl, rfl⟩
  go_wp2_with fail
  refine (HNO.out 9 (by decide) (by decide)).mono ?_
  rintro e w2 ⟨rfl, rfl⟩
  go_wp2_with fail
  refine HYES.out.mono ?_
  rintro e w2 ⟨rfl, rfl⟩
  go_wp2_with fail
  go_ret
  exact ⟨rfl, Later.refl _⟩
 ·go_enter Tryd.func42, Tryd.ntmps42
  go_wp2_with fail
  refine (HNO.out 3 (by decide) (by decide)).mono ?_
  rintro e w2 ⟨rfl, rfl⟩
  go_wp2_with fail
  refine (HNO.out 9 (by decide) (by decide)).mono ?_
  rintro e w2 ⟨rfl, rfl⟩
  go_wp2_with fail
  refine (HNO.out 4 (by decide) (by decide)).mono ?_
  rintro e w2 ⟨rfl, rfl⟩
  go_wp2_with fail
  refine HYES.out.mono ?_
  rintro e w2 ⟨rfl, rfl⟩
  go_wp2_with fail
  go_ret
  exact ⟨rfl, Later.refl _⟩
 ·go_enter Tryd.func42, Tryd.ntmps42
  go_wp2_with fail
  refine (HNO.out 3 (by decide) (by decide)).mono ?_
  rintro e w2 ⟨rfl, rfl⟩
  go_wp2_with fail
  refine HYES.out.mono ?_
  rintro e w2 ⟨rfl, rfl⟩
  go_wp2_with fail
  go_ret
  exact ⟨rfl, Later.refl _⟩

theorem setCells_only {w : World} {g : Nat} : ∀ (vs : List Value) (o : Nat), w.grownBy (w.setCells g o vs) (some g) := by
 intro vs
 induction vs generalizing w with
 | nil => exact fun o => World.grownBy.refl _ _
 | cons v r ih => exact fun o => only_trans (only_setCell (g := g) (World.grownBy.refl _ _) (.inl rfl) v) (ih (o + 1))
def cagg9 (c : Chg) : Value := .agg #[.int .i64 c.kind, .int .i64 c.col, .string c.name, .int .i64 c.typ, .int .i64 c.val.1, .int .i64 c.val.2.1, .string c.val.2.2, .int .u8 c.sep, .int .i64 c.num]
theorem Blk.setAll {g : Nat} {t : TypeId} : ∀ (vs : List Value) (o : Nat) (cs : List Value) {w : World}, Blk w g cs.toArray t → Blk (w.setCells g o vs) g (setL cs o vs).toArray t
 | [], _, _, _, h => h
 | v :: r, o, cs, w, h => by
  have h1 := h.set_ o v
  rw [List.setIfInBounds_toArray] at h1
  exact Blk.setAll r (o + 1) (cs.set o v) h1
/-- A change's cells, laid anew. -/
theorem TS.laid {B p : Nat} {w : World} {s : St3} {c : Chg} {gv vc ge ec : Nat} (zs : List Value) (hz : zs.length = 15) (hb : Blk w p zs.toArray 78) (oc : w.ownsRow B 59 3 (.slice (some ⟨gv, 0, none⟩) s.1.length vc) s.1.length (fc s.1)) (oe : w.ownsRow B 3 1 (.slice (some ⟨ge, 0, none⟩) s.2.2.enc.length ec) s.2.2.enc.length (ein s.2.2.enc)) (hp : B ≤ p) (hlen : s.2.2.enc.length = s.1.length) (hsm : 1 ≤ s.1.length ∧ s.1.length ≤ 6) (hls : 1 ≤ s.2.1 ∧ s.2.1 ≤ 10000) :
  TS B p (w.setCells p 0 (tcells s c gv vc ge ec).toList) s c gv vc ge ec := by
 obtain ⟨cv, hcv⟩ := own_typ oc
 obtain ⟨ce, hce⟩ := own_typ oe
 have n1 : gv ≠ p := ne_typ hcv hb (by decide)
 have n2 : ge ≠ p := ne_typ hce hb (by decide)
 have n3 : gv ≠ ge := ne_typ hcv hce (by decide)
 refine ⟨?_, own_apart oc (setCells_only _ _) (fun q hq e => by injection hq with hq; injection e with e; exact n1 (hq.trans e)), own_apart oe (setCells_only _ _) (fun q hq e => by injection hq with hq; injection e with e; exact n2 (hq.trans e)), n1, n2, n3, hp, hlen, hsm, hls⟩
 have h := Blk.setAll (tcells s c gv vc ge ec).toList 0 zs hb
 rw [setL_eq _ _ _ (by rw [hz]; exact Nat.le_refl _), List.take_zero, List.drop_eq_nil_of_le (by rw [hz]; exact Nat.le_refl _), List.nil_append, List.append_nil] at h
 exact h
def tzero : List Value := [.slice none 0 0, .int .i64 0, .int .i64 0, .int .i64 0, .int .i64 0, .slice none 0 0, .int .i64 0, .int .i64 0, .string ⟨#[]⟩, .int .i64 0, .int .i64 0, .int .i64 0, .string ⟨#[]⟩, .int .u8 0, .int .i64 0]
/-- What Apply gives. -/
def ApP (s : St3) (c : Chg) (w : World) (e : Ending) (w' : World) : Prop :=
 Later w w' ∧ ((∃ n, applyM s c = .error n ∧ n ∈ [(1 : Int), 3, 4, 6, 9] ∧ e = .returned (.tuple #[.agg #[.slice none 0 0, .int .i64 0], .agg #[.int .i64 0, .int .i64 0, .int .i64 0, .slice none 0 0], .int .i64 n])) ∨
  (∃ s' gv vc ge ec, applyM s c = .ok s' ∧ e = .returned (.tuple #[.agg #[.slice (some ⟨gv, 0, none⟩) s'.1.length vc, .int .i64 s'.2.1], lagg s'.2.2 (some ⟨ge, 0, none⟩) s'.2.2.enc.length ec, .int .i64 0]) ∧
   w'.ownsRow w.heap.size 59 3 (.slice (some ⟨gv, 0, none⟩) s'.1.length vc) s'.1.length (fc s'.1) ∧ w'.ownsRow w.heap.size 3 1 (.slice (some ⟨ge, 0, none⟩) s'.2.2.enc.length ec) s'.2.2.enc.length (ein s'.2.2.enc) ∧ gv ≠ ge ∧ s'.2.2.enc.length = s'.1.length ∧ (1 ≤ s'.1.length ∧ s'.1.length ≤ 6) ∧ 1 ≤ s'.2.1 ∧ s'.2.1 ≤ 10000))
/-- Where the region leaves the change on its way. -/
def CutT (w0 w1 : World) (s : St3) (c : Chg) (pv : Value) (wx : World) : Prop := ∃ p gv vc ge ec, pv = .pointer (some ⟨p, 0, none⟩) ∧ TS w1.heap.size p wx s c gv vc ge ec ∧ Later w1 wx

set_option maxRecDepth 100000 in
set_option maxHeartbeats 4000000 in
theorem schApply_any (A E : Option Addr) (vc0 ec0 : Nat) (s : St3) (c : Chg) (w : World) (f : Int → Addr) (hs : S15 w f) (h3 : S3 w) (hr : Has w A (fc s.1)) (hE : Has w E (ein s.2.2.enc)) (hl : s.1.length ≤ 1000) (hel : s.2.2.enc.length ≤ 1000) (hnm : ∀ x ∈ s.1, x.2.1.size ≤ 9223372036854775807) (hcn : c.name.size ≤ 9223372036854775807) (hA : A = none → vc0 = 0) (hEn : E = none → ec0 = 0) :
  Calls Tryd.prog 14 #[.agg #[.slice A s.1.length vc0, .int .i64 s.2.1], lagg s.2.2 E s.2.2.enc.length ec0, cagg9 c] w (ApP s c w) := by
 obtain ⟨q, hq⟩ : ∃ x, w.heap.size = x := ⟨_, rfl⟩
 obtain ⟨w1, hw1⟩ : ∃ x : World, ((((w.alloc (.cells #[.slice A s.1.length vc0, .int .i64 s.2.1] 24)).alloc (.cells #[.int .i64 s.2.2.sb, .int .i64 s.2.2.pb, .int .i64 s.2.2.parts, .slice E s.2.2.enc.length ec0] 27)).alloc (.cells #[.int .i64 c.kind, .int .i64 c.col, .string c.name, .int .i64 c.typ, .int .i64 c.val.1, .int .i64 c.val.2.1, .string c.val.2.2, .int .u8 c.sep, .int .i64 c.num] 31)).alloc (.cells #[.slice none 0 0, .int .i64 0] 24)).alloc (.cells #[.int .i64 0, .int .i64 0, .int .i64 0, .slice none 0 0] 27) = x := ⟨_, rfl⟩
 have l1 : Later w w1 := hw1 ▸ ((((Later.new w _).alloc _).alloc _).alloc _).alloc _
 have b0 : Blk w1 q #[.slice A s.1.length vc0, .int .i64 s.2.1] 24 := hw1 ▸ ((((Blk.new w _ _ _ hq.symm).later (Later.new _ _)).later (Later.new _ _)).later (Later.new _ _)).later (Later.new _ _)
 have b1 : Blk w1 (q + 1) #[.int .i64 s.2.2.sb, .int .i64 s.2.2.pb, .int .i64 s.2.2.parts, .slice E s.2.2.enc.length ec0] 27 := hw1 ▸ (((Blk.new _ _ _ _ (by simp; omega)).later (Later.new _ _)).later (Later.new _ _)).later (Later.new _ _)
 have b2 : Blk w1 (q + 2) #[.int .i64 c.kind, .int .i64 c.col, .string c.name, .int .i64 c.typ, .int .i64 c.val.1, .int .i64 c.val.2.1, .string c.val.2.2, .int .u8 c.sep, .int .i64 c.num] 31 := hw1 ▸ ((Blk.new _ _ _ _ (by simp; omega)).later (Later.new _ _)).later (Later.new _ _)
 have b3 : Blk w1 (q + 3) #[.slice none 0 0, .int .i64 0] 24 := hw1 ▸ (Blk.new _ _ _ _ (by simp; omega)).later (Later.new _ _)
 have b4 : Blk w1 (q + 4) #[.int .i64 0, .int .i64 0, .int .i64 0, .slice none 0 0] 27 := hw1 ▸ Blk.new _ _ _ _ (by simp; omega)
 have HB0 := Lib.hid b0
 have HB1 := Lib.hid b1
 have HB2 := Lib.hid b2
 have HB3 := Lib.hid b3
 have HB4 := Lib.hid b4
 have HL := Lib.hid l1
 have HQ := Lib.hid hq
 have HS := Lib.hid hs
 have H3 := Lib.hid h3
 have HR := Lib.hid (hr.later l1)
 have HE := Lib.hid (hE.later l1)
 have HCN := Lib.hid hcn
 have HNA := Lib.hid hA
 have HNE := Lib.hid hEn
 have HMC := Lib.hid (schMay_any A s.1.length vc0 s.2.1 s.1 w1 rfl (by omega) (hr.later l1) hnm)
 have e0 := b0.cell 0 _ rfl
 have e1 := b0.cell 1 _ rfl
 have HW1 := Lib.hid hw1
 clear hs h3 hr hE hcn hA hEn hnm l1 b0 b1 b2 b3 b4
 unfold lagg cagg9
 go_enter Tryd.func14, Tryd.ntmps14
 go_wp2_with fail
 simp only [Nat.add_assoc, Nat.reduceAdd]
 refine HMC.out.mono ?_
 clear HMC
 by_cases hm : MayS s.1 s.2.1
 rotate_left
 ·rintro e w2 ht
  obtain ⟨rfl, l2⟩ := ht.no hm
  have HX := Lib.hid (show applyM s c = .error 1 from if_neg (fun h => hm h.1))
  obtain ⟨wf, hwf⟩ : ∃ x, x = w2 := ⟨_, rfl⟩
  have HF3 := Lib.hid (show Blk wf (q + 3) #[.slice none 0 0, .int .i64 0] 24 from hwf ▸ HB3.out.later l2)
  have HF4 := Lib.hid (show Blk wf (q + 4) #[.int .i64 0, .int .i64 0, .int .i64 0, .slice none 0 0] 27 from hwf ▸ HB4.out.later l2)
  have HLF := Lib.hid (show Later w wf from hwf ▸ HL.out.trans l2)
  rw [← hwf]
  clear hwf
  obtain ⟨x0, hx0⟩ : ∃ x, wf.setCell ⟨q + 3, 0, none⟩ (.slice none 0 0) = x := ⟨_, rfl⟩
  obtain ⟨x1, hx1⟩ : ∃ x, x0.setCell ⟨q + 3, 1, none⟩ (.int .i64 0) = x := ⟨_, rfl⟩
  obtain ⟨x2, hx2⟩ : ∃ x, x1.setCell ⟨q + 4, 0, none⟩ (.int .i64 0) = x := ⟨_, rfl⟩
  obtain ⟨x3, hx3⟩ : ∃ x, x2.setCell ⟨q + 4, 1, none⟩ (.int .i64 0) = x := ⟨_, rfl⟩
  obtain ⟨x4, hx4⟩ : ∃ x, x3.setCell ⟨q + 4, 2, none⟩ (.int .i64 0) = x := ⟨_, rfl⟩
  obtain ⟨x5, hx5⟩ : ∃ x, x4.setCell ⟨q + 4, 3, none⟩ (.slice none 0 0) = x := ⟨_, rfl⟩
  have c0 := HF3.out.cell 0 _ rfl
  have z0 := HF3.out.frozen 0
  have g0_3 : Blk x0 (q + 3) #[.slice none 0 0, .int .i64 0] 24 := hx0 ▸ HF3.out.set_ 0 _
  have g0_4 : Blk x0 (q + 4) #[.int .i64 0, .int .i64 0, .int .i64 0, .slice none 0 0] 27 := hx0 ▸ HF4.out.far (by show q + 4 ≠ q + 3; omega) _
  have c1 := g0_3.cell 1 _ rfl
  have z1 := g0_3.frozen 1
  have g1_3 : Blk x1 (q + 3) #[.slice none 0 0, .int .i64 0] 24 := hx1 ▸ g0_3.set_ 1 _
  have g1_4 : Blk x1 (q + 4) #[.int .i64 0, .int .i64 0, .int .i64 0, .slice none 0 0] 27 := hx1 ▸ g0_4.far (by show q + 4 ≠ q + 3; omega) _
  have c2 := g1_4.cell 0 _ rfl
  have z2 := g1_4.frozen 0
  have g2_4 : Blk x2 (q + 4) #[.int .i64 0, .int .i64 0, .int .i64 0, .slice none 0 0] 27 := hx2 ▸ g1_4.set_ 0 _
  have g2_3 : Blk x2 (q + 3) #[.slice none 0 0, .int .i64 0] 24 := hx2 ▸ g1_3.far (by show q + 3 ≠ q + 4; omega) _
  have c3 := g2_4.cell 1 _ rfl
  have z3 := g2_4.frozen 1
  have g3_4 : Blk x3 (q + 4) #[.int .i64 0, .int .i64 0, .int .i64 0, .slice none 0 0] 27 := hx3 ▸ g2_4.set_ 1 _
  have g3_3 : Blk x3 (q + 3) #[.slice none 0 0, .int .i64 0] 24 := hx3 ▸ g2_3.far (by show q + 3 ≠ q + 4; omega) _
  have c4 := g3_4.cell 2 _ rfl
  have z4 := g3_4.frozen 2
  have g4_4 : Blk x4 (q + 4) #[.int .i64 0, .int .i64 0, .int .i64 0, .slice none 0 0] 27 := hx4 ▸ g3_4.set_ 2 _
  have g4_3 : Blk x4 (q + 3) #[.slice none 0 0, .int .i64 0] 24 := hx4 ▸ g3_3.far (by show q + 3 ≠ q + 4; omega) _
  have c5 := g4_4.cell 3 _ rfl
  have z5 := g4_4.frozen 3
  have g5_4 : Blk x5 (q + 4) #[.int .i64 0, .int .i64 0, .int .i64 0, .slice none 0 0] 27 := hx5 ▸ g4_4.set_ 3 _
  have g5_3 : Blk x5 (q + 3) #[.slice none 0 0, .int .i64 0] 24 := hx5 ▸ g4_3.far (by show q + 3 ≠ q + 4; omega) _
  have r0 := g5_3.cell 0 _ rfl
  have r1 := g5_3.cell 1 _ rfl
  have r2 := g5_4.cell 0 _ rfl
  have r3 := g5_4.cell 1 _ rfl
  have r4 := g5_4.cell 2 _ rfl
  have r5 := g5_4.cell 3 _ rfl
  have q3 : w.heap.size ≤ q + 3 := by rw [HQ.out]; omega
  have q4 : w.heap.size ≤ q + 4 := by rw [HQ.out]; omega
  have HLF2 := Lib.hid (show Later w x5 from hx5 ▸ hx4 ▸ hx3 ▸ hx2 ▸ hx1 ▸ hx0 ▸ (((((HLF.out.set_ q3 _).set_ q3 _).set_ q4 _).set_ q4 _).set_ q4 _).set_ q4 _)
  clear g0_3 g0_4 g1_3 g1_4 g2_3 g2_4 g3_3 g3_4 g4_3 g4_4 g5_3 g5_4 HF3 HF4 q3 q4
  go_wp2_with fail
  exact bodyPost_ret (v := .tuple #[.agg #[.slice none 0 0, .int .i64 0], .agg #[.int .i64 0, .int .i64 0, .int .i64 0, .slice none 0 0], .int .i64 1]) (by simp [results, Tryd.results14, go_sem, r0, r1, r2, r3, r4, r5]) rfl ⟨HLF2.out, .inl ⟨1, HX.out, by decide, rfl⟩⟩
 rintro e w2 ht
 obtain ⟨rfl, l2⟩ := ht.yes hm
 have HM := Lib.hid hm
 have hsm := hm.1
 have e0 := (HB0.out.later l2).cell 0 _ rfl
 have e1 := (HB0.out.later l2).cell 1 _ rfl
 have f0 := (HB1.out.later l2).cell 0 _ rfl
 have f1 := (HB1.out.later l2).cell 1 _ rfl
 have f2 := (HB1.out.later l2).cell 2 _ rfl
 have f3 := (HB1.out.later l2).cell 3 _ rfl
 have HLC := Lib.hid (mayLayout_any A E s.1.length vc0 s.2.2.enc.length ec0 s.2.1 s.1 s.2.2 w2 rfl rfl (by omega) (by omega) (HR.out.later l2) (HE.out.later l2))
 have HL2 := Lib.hid l2
 clear ht l2 hm hw1
 go_wp2_with fail
 refine HLC.out.mono ?_
 clear HLC
 by_cases hmy : MayLy s.1 s.2.2
 rotate_left
 ·rintro e w3 ht
  obtain ⟨rfl, l3⟩ := ht.no hmy
  have L3 := HL2.out.trans l3
  have HX := Lib.hid (show applyM s c = .error 1 from if_neg (fun h => hmy h.2))
  obtain ⟨wf, hwf⟩ : ∃ x, x = w3 := ⟨_, rfl⟩
  have HF3 := Lib.hid (show Blk wf (q + 3) #[.slice none 0 0, .int .i64 0] 24 from hwf ▸ HB3.out.later L3)
  have HF4 := Lib.hid (show Blk wf (q + 4) #[.int .i64 0, .int .i64 0, .int .i64 0, .slice none 0 0] 27 from hwf ▸ HB4.out.later L3)
  have HLF := Lib.hid (show Later w wf from hwf ▸ HL.out.trans L3)
  rw [← hwf]
  clear hwf
  obtain ⟨x0, hx0⟩ : ∃ x, wf.setCell ⟨q + 3, 0, none⟩ (.slice none 0 0) = x := ⟨_, rfl⟩
  obtain ⟨x1, hx1⟩ : ∃ x, x0.setCell ⟨q + 3, 1, none⟩ (.int .i64 0) = x := ⟨_, rfl⟩
  obtain ⟨x2, hx2⟩ : ∃ x, x1.setCell ⟨q + 4, 0, none⟩ (.int .i64 0) = x := ⟨_, rfl⟩
  obtain ⟨x3, hx3⟩ : ∃ x, x2.setCell ⟨q + 4, 1, none⟩ (.int .i64 0) = x := ⟨_, rfl⟩
  obtain ⟨x4, hx4⟩ : ∃ x, x3.setCell ⟨q + 4, 2, none⟩ (.int .i64 0) = x := ⟨_, rfl⟩
  obtain ⟨x5, hx5⟩ : ∃ x, x4.setCell ⟨q + 4, 3, none⟩ (.slice none 0 0) = x := ⟨_, rfl⟩
  have c0 := HF3.out.cell 0 _ rfl
  have z0 := HF3.out.frozen 0
  have g0_3 : Blk x0 (q + 3) #[.slice none 0 0, .int .i64 0] 24 := hx0 ▸ HF3.out.set_ 0 _
  have g0_4 : Blk x0 (q + 4) #[.int .i64 0, .int .i64 0, .int .i64 0, .slice none 0 0] 27 := hx0 ▸ HF4.out.far (by show q + 4 ≠ q + 3; omega) _
  have c1 := g0_3.cell 1 _ rfl
  have z1 := g0_3.frozen 1
  have g1_3 : Blk x1 (q + 3) #[.slice none 0 0, .int .i64 0] 24 := hx1 ▸ g0_3.set_ 1 _
  have g1_4 : Blk x1 (q + 4) #[.int .i64 0, .int .i64 0, .int .i64 0, .slice none 0 0] 27 := hx1 ▸ g0_4.far (by show q + 4 ≠ q + 3; omega) _
  have c2 := g1_4.cell 0 _ rfl
  have z2 := g1_4.frozen 0
  have g2_4 : Blk x2 (q + 4) #[.int .i64 0, .int .i64 0, .int .i64 0, .slice none 0 0] 27 := hx2 ▸ g1_4.set_ 0 _
  have g2_3 : Blk x2 (q + 3) #[.slice none 0 0, .int .i64 0] 24 := hx2 ▸ g1_3.far (by show q + 3 ≠ q + 4; omega) _
  have c3 := g2_4.cell 1 _ rfl
  have z3 := g2_4.frozen 1
  have g3_4 : Blk x3 (q + 4) #[.int .i64 0, .int .i64 0, .int .i64 0, .slice none 0 0] 27 := hx3 ▸ g2_4.set_ 1 _
  have g3_3 : Blk x3 (q + 3) #[.slice none 0 0, .int .i64 0] 24 := hx3 ▸ g2_3.far (by show q + 3 ≠ q + 4; omega) _
  have c4 := g3_4.cell 2 _ rfl
  have z4 := g3_4.frozen 2
  have g4_4 : Blk x4 (q + 4) #[.int .i64 0, .int .i64 0, .int .i64 0, .slice none 0 0] 27 := hx4 ▸ g3_4.set_ 2 _
  have g4_3 : Blk x4 (q + 3) #[.slice none 0 0, .int .i64 0] 24 := hx4 ▸ g3_3.far (by show q + 3 ≠ q + 4; omega) _
  have c5 := g4_4.cell 3 _ rfl
  have z5 := g4_4.frozen 3
  have g5_4 : Blk x5 (q + 4) #[.int .i64 0, .int .i64 0, .int .i64 0, .slice none 0 0] 27 := hx5 ▸ g4_4.set_ 3 _
  have g5_3 : Blk x5 (q + 3) #[.slice none 0 0, .int .i64 0] 24 := hx5 ▸ g4_3.far (by show q + 3 ≠ q + 4; omega) _
  have r0 := g5_3.cell 0 _ rfl
  have r1 := g5_3.cell 1 _ rfl
  have r2 := g5_4.cell 0 _ rfl
  have r3 := g5_4.cell 1 _ rfl
  have r4 := g5_4.cell 2 _ rfl
  have r5 := g5_4.cell 3 _ rfl
  have q3 : w.heap.size ≤ q + 3 := by rw [HQ.out]; omega
  have q4 : w.heap.size ≤ q + 4 := by rw [HQ.out]; omega
  have HLF2 := Lib.hid (show Later w x5 from hx5 ▸ hx4 ▸ hx3 ▸ hx2 ▸ hx1 ▸ hx0 ▸ (((((HLF.out.set_ q3 _).set_ q3 _).set_ q4 _).set_ q4 _).set_ q4 _).set_ q4 _)
  clear g0_3 g0_4 g1_3 g1_4 g2_3 g2_4 g3_3 g3_4 g4_3 g4_4 g5_3 g5_4 HF3 HF4 q3 q4
  go_wp2_with fail
  exact bodyPost_ret (v := .tuple #[.agg #[.slice none 0 0, .int .i64 0], .agg #[.int .i64 0, .int .i64 0, .int .i64 0, .slice none 0 0], .int .i64 1]) (by simp [results, Tryd.results14, go_sem, r0, r1, r2, r3, r4, r5]) rfl ⟨HLF2.out, .inl ⟨1, HX.out, by decide, rfl⟩⟩
 rintro e w3 ht
 obtain ⟨rfl, l3⟩ := ht.yes hmy
 have HAP := Lib.hid (show applyM s c = changeM s c from if_pos ⟨HM.out, hmy⟩)
 have hlen : s.2.2.enc.length = s.1.length := hmy.2.2.2.2
 have hls : 1 ≤ s.2.1 ∧ s.2.1 ≤ 10000 := by
  have h1 := (HM.out.2.2 0 (by omega)).1.1
  have h2 := HM.out.2.1
  omega
 have HL3 := Lib.hid (HL2.out.trans l3)
 clear ht l3 hmy e0 e1 f0 f1 f2 f3 HL2 HM
 have HFS := Lib.hid (fun (W : World) (l : Later w1 W) => freshS_any A s.1.length vc0 s.2.1 s.1 W rfl (by omega) (HR.out.later l) HNA.out)
 have HFL := Lib.hid (fun (W : World) (l : Later w1 W) => freshL_any E s.2.2.enc.length ec0 s.2.2 W rfl (by omega) (HE.out.later l) HNE.out)
 have HLEN := Lib.hid hlen
 have HLS := Lib.hid hls
 have HSM := Lib.hid hsm
 clear hlen hls
 go_upto_region 3 with fail
 go_cut [9] from 22 to 39 (fun pv wx => CutT w w1 s c pv wx)
 case first =>
  have hS : (fun W : World => Later w1 W) w3.drew := HL3.out.drew
  refine wp_region_Z (S := (fun W : World => Later w1 W)) 7 (by kernel_rfl) ?_
  obtain ⟨y0, hy0⟩ : ∃ x, w3.drew = x := ⟨_, rfl⟩
  rw [hy0] at hS ⊢
  clear hy0 HL3
  refine wpAnyZ_take (i := 0) (oi := { dst := some 22, op := _, type := _, pos := _, after := _, guard := _ }) (v := ?_) rfl (by kernel_rfl) (by kernel_rfl) (by kernel_rfl) (by kernel_rfl) (fun _ _ _ h => h) (Or.inl ⟨by rfl, ?_⟩) hS ?_
  rotate_left
  focus ((intro w hSw; (try dsimp only at hSw); have d0 := (HB0.out.later hSw).cell 0 _ rfl; have d1 := (HB0.out.later hSw).cell 1 _ rfl; have f0 := (HB1.out.later hSw).cell 0 _ rfl; have f1 := (HB1.out.later hSw).cell 1 _ rfl; have f2 := (HB1.out.later hSw).cell 2 _ rfl; have f3 := (HB1.out.later hSw).cell 3 _ rfl; have g0 := (HB2.out.later hSw).cell 0 _ rfl; have g1 := (HB2.out.later hSw).cell 1 _ rfl; have g2 := (HB2.out.later hSw).cell 2 _ rfl; have g3 := (HB2.out.later hSw).cell 3 _ rfl; have g4 := (HB2.out.later hSw).cell 4 _ rfl; have g5 := (HB2.out.later hSw).cell 5 _ rfl; have g6 := (HB2.out.later hSw).cell 6 _ rfl; have g7 := (HB2.out.later hSw).cell 7 _ rfl; have g8 := (HB2.out.later hSw).cell 8 _ rfl; go_simp); (try with_reducible rfl))
  (try simp only [Act.put, List.setIfInBounds_toArray, List.set_cons_zero, List.set_cons_succ])
  refine wpAnyZ_take (i := 2) (oi := { dst := some 24, op := _, type := _, pos := _, after := _, guard := _ }) (v := ?_) rfl (by kernel_rfl) (by kernel_rfl) (by kernel_rfl) (by kernel_rfl) (fun _ _ _ h => h) (Or.inl ⟨by rfl, ?_⟩) hS ?_
  rotate_left
  focus ((intro w hSw; (try dsimp only at hSw); have d0 := (HB0.out.later hSw).cell 0 _ rfl; have d1 := (HB0.out.later hSw).cell 1 _ rfl; have f0 := (HB1.out.later hSw).cell 0 _ rfl; have f1 := (HB1.out.later hSw).cell 1 _ rfl; have f2 := (HB1.out.later hSw).cell 2 _ rfl; have f3 := (HB1.out.later hSw).cell 3 _ rfl; have g0 := (HB2.out.later hSw).cell 0 _ rfl; have g1 := (HB2.out.later hSw).cell 1 _ rfl; have g2 := (HB2.out.later hSw).cell 2 _ rfl; have g3 := (HB2.out.later hSw).cell 3 _ rfl; have g4 := (HB2.out.later hSw).cell 4 _ rfl; have g5 := (HB2.out.later hSw).cell 5 _ rfl; have g6 := (HB2.out.later hSw).cell 6 _ rfl; have g7 := (HB2.out.later hSw).cell 7 _ rfl; have g8 := (HB2.out.later hSw).cell 8 _ rfl; go_simp); (try with_reducible rfl))
  (try simp only [Act.put, List.setIfInBounds_toArray, List.set_cons_zero, List.set_cons_succ])
  refine wpAnyZ_take (i := 4) (oi := { dst := some 26, op := _, type := _, pos := _, after := _, guard := _ }) (v := ?_) rfl (by kernel_rfl) (by kernel_rfl) (by kernel_rfl) (by kernel_rfl) (fun _ _ _ h => h) (Or.inl ⟨by rfl, ?_⟩) hS ?_
  rotate_left
  focus ((intro w hSw; (try dsimp only at hSw); have d0 := (HB0.out.later hSw).cell 0 _ rfl; have d1 := (HB0.out.later hSw).cell 1 _ rfl; have f0 := (HB1.out.later hSw).cell 0 _ rfl; have f1 := (HB1.out.later hSw).cell 1 _ rfl; have f2 := (HB1.out.later hSw).cell 2 _ rfl; have f3 := (HB1.out.later hSw).cell 3 _ rfl; have g0 := (HB2.out.later hSw).cell 0 _ rfl; have g1 := (HB2.out.later hSw).cell 1 _ rfl; have g2 := (HB2.out.later hSw).cell 2 _ rfl; have g3 := (HB2.out.later hSw).cell 3 _ rfl; have g4 := (HB2.out.later hSw).cell 4 _ rfl; have g5 := (HB2.out.later hSw).cell 5 _ rfl; have g6 := (HB2.out.later hSw).cell 6 _ rfl; have g7 := (HB2.out.later hSw).cell 7 _ rfl; have g8 := (HB2.out.later hSw).cell 8 _ rfl; go_simp); (try with_reducible rfl))
  (try simp only [Act.put, List.setIfInBounds_toArray, List.set_cons_zero, List.set_cons_succ])
  refine wpAnyZ_all (rs := [1, 6]) (by kernel_rfl) (by simp) (fun i hi => ?_)
  simp only [List.mem_cons, List.not_mem_nil, or_false] at hi
  rcases hi with rfl | rfl
  ·refine stepZ (o := { dst := some 23, op := _, type := _, pos := _, after := _, guard := _ }) rfl (fun K hK => ?_)
   go_simp
   refine (HFS.out _ hS).mono ?_
   rintro e y1 ⟨A2, vcv, rfl, oc, _, lc⟩
   obtain ⟨gv, rfl⟩ := own_some oc (by have := HSM.out; omega)
   have HOC := Lib.hid (own_weak oc (base' := w1.heap.size) (Later.size hS))
   have hS : (fun W : World => Later w1 W) y1 := Later.trans hS lc
   refine hK _ _ hS ?_
   clear hK oc lc
   (try simp only [Act.put, List.setIfInBounds_toArray, List.set_cons_zero, List.set_cons_succ])
   refine wpAnyZ_all (rs := [3, 6]) (by kernel_rfl) (by simp) (fun i hi => ?_)
   simp only [List.mem_cons, List.not_mem_nil, or_false] at hi
   rcases hi with rfl | rfl
   ·refine stepZ (o := { dst := some 25, op := _, type := _, pos := _, after := _, guard := _ }) rfl (fun K hK => ?_)
    go_simp
    refine (HFL.out _ hS).mono ?_
    rintro e y2 ⟨E2, ece, rfl, oc, _, lc⟩
    unfold lagg
    obtain ⟨ge, rfl⟩ := own_some oc (by have := HSM.out; have := HLEN.out; omega)
    have HOE := Lib.hid (own_weak oc (base' := w1.heap.size) (Later.size hS))
    have hS : (fun W : World => Later w1 W) y2 := Later.trans hS lc
    have HOC := Lib.hid (own_later HOC.out lc)
    refine hK _ _ hS ?_
    clear hK oc lc
    (try simp only [Act.put, List.setIfInBounds_toArray, List.set_cons_zero, List.set_cons_succ])
    refine wpAnyZ_take (i := 5) (oi := { dst := some 27, op := _, type := _, pos := _, after := _, guard := _ }) (v := ?_) rfl (by kernel_rfl) (by kernel_rfl) (by kernel_rfl) (by kernel_rfl) (fun _ _ _ h => h) (Or.inl ⟨by rfl, ?_⟩) hS ?_
    rotate_left
    focus ((intro w hSw; (try dsimp only at hSw); have d0 := (HB0.out.later hSw).cell 0 _ rfl; have d1 := (HB0.out.later hSw).cell 1 _ rfl; have f0 := (HB1.out.later hSw).cell 0 _ rfl; have f1 := (HB1.out.later hSw).cell 1 _ rfl; have f2 := (HB1.out.later hSw).cell 2 _ rfl; have f3 := (HB1.out.later hSw).cell 3 _ rfl; have g0 := (HB2.out.later hSw).cell 0 _ rfl; have g1 := (HB2.out.later hSw).cell 1 _ rfl; have g2 := (HB2.out.later hSw).cell 2 _ rfl; have g3 := (HB2.out.later hSw).cell 3 _ rfl; have g4 := (HB2.out.later hSw).cell 4 _ rfl; have g5 := (HB2.out.later hSw).cell 5 _ rfl; have g6 := (HB2.out.later hSw).cell 6 _ rfl; have g7 := (HB2.out.later hSw).cell 7 _ rfl; have g8 := (HB2.out.later hSw).cell 8 _ rfl; go_simp); (try with_reducible rfl))
    (try simp only [Act.put, List.setIfInBounds_toArray, List.set_cons_zero, List.set_cons_succ])
    refine wpAnyZ_all (rs := [6]) (by kernel_rfl) (by simp) (fun i hi => ?_)
    simp only [List.mem_cons, List.not_mem_nil, or_false] at hi
    subst hi
    refine stepZ (o := { dst := some 9, op := _, type := _, pos := _, after := _, guard := _ }) rfl (fun K hK => ?_)
    go_simp
    obtain ⟨gp, hgp⟩ : ∃ x, y2.heap.size = x := ⟨_, rfl⟩
    obtain ⟨y3, hyy⟩ : ∃ x, y2.alloc (.cells tzero.toArray 78) = x := ⟨_, rfl⟩
    have lc : Later y2 y3 := hyy ▸ Later.new _ _
    have HBT := Lib.hid (show Blk y3 gp tzero.toArray 78 from hyy ▸ Blk.new _ _ _ _ hgp.symm)
    have HPW := Lib.hid (show w1.heap.size ≤ gp from hgp ▸ hS.size)
    have hS : (fun W : World => Later w1 W) y3 := Later.trans hS lc
    have HOC := Lib.hid (own_later HOC.out lc)
    have HOE := Lib.hid (own_later HOE.out lc)
    try rw [hgp]
    unfold tzero at hyy
    rw [hyy]
    refine hK _ _ hS ?_
    clear hK lc hyy hgp
    (try simp only [Act.put, List.setIfInBounds_toArray, List.set_cons_zero, List.set_cons_succ])
    refine wpAnyZ_all (rs := [7]) (by kernel_rfl) (by simp) (fun i hi => ?_)
    simp only [List.mem_cons, List.not_mem_nil, or_false] at hi
    subst hi
    have hts := TS.laid (s := s) (c := c) tzero rfl HBT.out HOC.out HOE.out HPW.out HLEN.out HSM.out HLS.out
    refine stepZl (o := { dst := none, op := _, type := _, pos := _, after := _, guard := _ }) rfl (fun K hK => ?_)
    rw [if_pos (by rfl)]
    refine wp_store_mid 78 (.tmp 9) (.tmp 27) rfl gp 0 (tcells s c gv vcv ge ece) rfl rfl (fun j hj => by rw [Nat.zero_add]; have hj2 : j < 15 := hj; exact ⟨by rw [cell_of_row y3 gp j _ _ _ HBT.out, Array.getElem?_eq_getElem (by exact hj2)]; rfl, HBT.out.frozen j⟩) (by kernel_rfl) (by simp [tcells, Value.oneCell']) ?_
    refine hK _ _ ?_
    clear hK
    (try simp only [Act.put])
    refine wpAnyZ_done (by kernel_rfl) ?_ _
    go_wp2_with fail
    go_meet
    exact ⟨gp, gv, vcv, ge, ece, rfl, hts, Later.of (Below.grown hS (setCells_only _ _) hS.size (fun q e => by injection e with e; have := HPW.out; omega))⟩
   ·refine stepZ (o := { dst := some 9, op := _, type := _, pos := _, after := _, guard := _ }) rfl (fun K hK => ?_)
    go_simp
    obtain ⟨gp, hgp⟩ : ∃ x, y1.heap.size = x := ⟨_, rfl⟩
    obtain ⟨y2, hyy⟩ : ∃ x, y1.alloc (.cells tzero.toArray 78) = x := ⟨_, rfl⟩
    have lc : Later y1 y2 := hyy ▸ Later.new _ _
    have HBT := Lib.hid (show Blk y2 gp tzero.toArray 78 from hyy ▸ Blk.new _ _ _ _ hgp.symm)
    have HPW := Lib.hid (show w1.heap.size ≤ gp from hgp ▸ hS.size)
    have hS : (fun W : World => Later w1 W) y2 := Later.trans hS lc
    have HOC := Lib.hid (own_later HOC.out lc)
    try rw [hgp]
    unfold tzero at hyy
    rw [hyy]
    refine hK _ _ hS ?_
    clear hK lc hyy hgp
    (try simp only [Act.put, List.setIfInBounds_toArray, List.set_cons_zero, List.set_cons_succ])
    refine wpAnyZ_all (rs := [3]) (by kernel_rfl) (by simp) (fun i hi => ?_)
    simp only [List.mem_cons, List.not_mem_nil, or_false] at hi
    subst hi
    refine stepZ (o := { dst := some 25, op := _, type := _, pos := _, after := _, guard := _ }) rfl (fun K hK => ?_)
    go_simp
    refine (HFL.out _ hS).mono ?_
    rintro e y3 ⟨E2, ece, rfl, oc, _, lc⟩
    unfold lagg
    obtain ⟨ge, rfl⟩ := own_some oc (by have := HSM.out; have := HLEN.out; omega)
    have HOE := Lib.hid (own_weak oc (base' := w1.heap.size) (Later.size hS))
    have hS : (fun W : World => Later w1 W) y3 := Later.trans hS lc
    have HOC := Lib.hid (own_later HOC.out lc)
    have HBT := Lib.hid (HBT.out.later lc)
    refine hK _ _ hS ?_
    clear hK oc lc
    (try simp only [Act.put, List.setIfInBounds_toArray, List.set_cons_zero, List.set_cons_succ])
    refine wpAnyZ_take (i := 5) (oi := { dst := some 27, op := _, type := _, pos := _, after := _, guard := _ }) (v := ?_) rfl (by kernel_rfl) (by kernel_rfl) (by kernel_rfl) (by kernel_rfl) (fun _ _ _ h => h) (Or.inl ⟨by rfl, ?_⟩) hS ?_
    rotate_left
    focus ((intro w hSw; (try dsimp only at hSw); have d0 := (HB0.out.later hSw).cell 0 _ rfl; have d1 := (HB0.out.later hSw).cell 1 _ rfl; have f0 := (HB1.out.later hSw).cell 0 _ rfl; have f1 := (HB1.out.later hSw).cell 1 _ rfl; have f2 := (HB1.out.later hSw).cell 2 _ rfl; have f3 := (HB1.out.later hSw).cell 3 _ rfl; have g0 := (HB2.out.later hSw).cell 0 _ rfl; have g1 := (HB2.out.later hSw).cell 1 _ rfl; have g2 := (HB2.out.later hSw).cell 2 _ rfl; have g3 := (HB2.out.later hSw).cell 3 _ rfl; have g4 := (HB2.out.later hSw).cell 4 _ rfl; have g5 := (HB2.out.later hSw).cell 5 _ rfl; have g6 := (HB2.out.later hSw).cell 6 _ rfl; have g7 := (HB2.out.later hSw).cell 7 _ rfl; have g8 := (HB2.out.later hSw).cell 8 _ rfl; go_simp); (try with_reducible rfl))
    (try simp only [Act.put, List.setIfInBounds_toArray, List.set_cons_zero, List.set_cons_succ])
    refine wpAnyZ_all (rs := [7]) (by kernel_rfl) (by simp) (fun i hi => ?_)
    simp only [List.mem_cons, List.not_mem_nil, or_false] at hi
    subst hi
    have hts := TS.laid (s := s) (c := c) tzero rfl HBT.out HOC.out HOE.out HPW.out HLEN.out HSM.out HLS.out
    refine stepZl (o := { dst := none, op := _, type := _, pos := _, after := _, guard := _ }) rfl (fun K hK => ?_)
    rw [if_pos (by rfl)]
    refine wp_store_mid 78 (.tmp 9) (.tmp 27) rfl gp 0 (tcells s c gv vcv ge ece) rfl rfl (fun j hj => by rw [Nat.zero_add]; have hj2 : j < 15 := hj; exact ⟨by rw [cell_of_row y3 gp j _ _ _ HBT.out, Array.getElem?_eq_getElem (by exact hj2)]; rfl, HBT.out.frozen j⟩) (by kernel_rfl) (by simp [tcells, Value.oneCell']) ?_
    refine hK _ _ ?_
    clear hK
    (try simp only [Act.put])
    refine wpAnyZ_done (by kernel_rfl) ?_ _
    go_wp2_with fail
    go_meet
    exact ⟨gp, gv, vcv, ge, ece, rfl, hts, Later.of (Below.grown hS (setCells_only _ _) hS.size (fun q e => by injection e with e; have := HPW.out; omega))⟩
  ·refine stepZ (o := { dst := some 9, op := _, type := _, pos := _, after := _, guard := _ }) rfl (fun K hK => ?_)
   go_simp
   obtain ⟨gp, hgp⟩ : ∃ x, y0.heap.size = x := ⟨_, rfl⟩
   obtain ⟨y1, hyy⟩ : ∃ x, y0.alloc (.cells tzero.toArray 78) = x := ⟨_, rfl⟩
   have lc : Later y0 y1 := hyy ▸ Later.new _ _
   have HBT := Lib.hid (show Blk y1 gp tzero.toArray 78 from hyy ▸ Blk.new _ _ _ _ hgp.symm)
   have HPW := Lib.hid (show w1.heap.size ≤ gp from hgp ▸ hS.size)
   have hS : (fun W : World => Later w1 W) y1 := Later.trans hS lc
   try rw [hgp]
   unfold tzero at hyy
   rw [hyy]
   refine hK _ _ hS ?_
   clear hK lc hyy hgp
   (try simp only [Act.put, List.setIfInBounds_toArray, List.set_cons_zero, List.set_cons_succ])
   refine wpAnyZ_all (rs := [1]) (by kernel_rfl) (by simp) (fun i hi => ?_)
   simp only [List.mem_cons, List.not_mem_nil, or_false] at hi
   subst hi
   refine stepZ (o := { dst := some 23, op := _, type := _, pos := _, after := _, guard := _ }) rfl (fun K hK => ?_)
   go_simp
   refine (HFS.out _ hS).mono ?_
   rintro e y2 ⟨A2, vcv, rfl, oc, _, lc⟩
   obtain ⟨gv, rfl⟩ := own_some oc (by have := HSM.out; omega)
   have HOC := Lib.hid (own_weak oc (base' := w1.heap.size) (Later.size hS))
   have hS : (fun W : World => Later w1 W) y2 := Later.trans hS lc
   have HBT := Lib.hid (HBT.out.later lc)
   refine hK _ _ hS ?_
   clear hK oc lc
   (try simp only [Act.put, List.setIfInBounds_toArray, List.set_cons_zero, List.set_cons_succ])
   refine wpAnyZ_all (rs := [3]) (by kernel_rfl) (by simp) (fun i hi => ?_)
   simp only [List.mem_cons, List.not_mem_nil, or_false] at hi
   subst hi
   refine stepZ (o := { dst := some 25, op := _, type := _, pos := _, after := _, guard := _ }) rfl (fun K hK => ?_)
   go_simp
   refine (HFL.out _ hS).mono ?_
   rintro e y3 ⟨E2, ece, rfl, oc, _, lc⟩
   unfold lagg
   obtain ⟨ge, rfl⟩ := own_some oc (by have := HSM.out; have := HLEN.out; omega)
   have HOE := Lib.hid (own_weak oc (base' := w1.heap.size) (Later.size hS))
   have hS : (fun W : World => Later w1 W) y3 := Later.trans hS lc
   have HOC := Lib.hid (own_later HOC.out lc)
   have HBT := Lib.hid (HBT.out.later lc)
   refine hK _ _ hS ?_
   clear hK oc lc
   (try simp only [Act.put, List.setIfInBounds_toArray, List.set_cons_zero, List.set_cons_succ])
   refine wpAnyZ_take (i := 5) (oi := { dst := some 27, op := _, type := _, pos := _, after := _, guard := _ }) (v := ?_) rfl (by kernel_rfl) (by kernel_rfl) (by kernel_rfl) (by kernel_rfl) (fun _ _ _ h => h) (Or.inl ⟨by rfl, ?_⟩) hS ?_
   rotate_left
   focus ((intro w hSw; (try dsimp only at hSw); have d0 := (HB0.out.later hSw).cell 0 _ rfl; have d1 := (HB0.out.later hSw).cell 1 _ rfl; have f0 := (HB1.out.later hSw).cell 0 _ rfl; have f1 := (HB1.out.later hSw).cell 1 _ rfl; have f2 := (HB1.out.later hSw).cell 2 _ rfl; have f3 := (HB1.out.later hSw).cell 3 _ rfl; have g0 := (HB2.out.later hSw).cell 0 _ rfl; have g1 := (HB2.out.later hSw).cell 1 _ rfl; have g2 := (HB2.out.later hSw).cell 2 _ rfl; have g3 := (HB2.out.later hSw).cell 3 _ rfl; have g4 := (HB2.out.later hSw).cell 4 _ rfl; have g5 := (HB2.out.later hSw).cell 5 _ rfl; have g6 := (HB2.out.later hSw).cell 6 _ rfl; have g7 := (HB2.out.later hSw).cell 7 _ rfl; have g8 := (HB2.out.later hSw).cell 8 _ rfl; go_simp); (try with_reducible rfl))
   (try simp only [Act.put, List.setIfInBounds_toArray, List.set_cons_zero, List.set_cons_succ])
   refine wpAnyZ_all (rs := [7]) (by kernel_rfl) (by simp) (fun i hi => ?_)
   simp only [List.mem_cons, List.not_mem_nil, or_false] at hi
   subst hi
   have hts := TS.laid (s := s) (c := c) tzero rfl HBT.out HOC.out HOE.out HPW.out HLEN.out HSM.out HLS.out
   refine stepZl (o := { dst := none, op := _, type := _, pos := _, after := _, guard := _ }) rfl (fun K hK => ?_)
   rw [if_pos (by rfl)]
   refine wp_store_mid 78 (.tmp 9) (.tmp 27) rfl gp 0 (tcells s c gv vcv ge ece) rfl rfl (fun j hj => by rw [Nat.zero_add]; have hj2 : j < 15 := hj; exact ⟨by rw [cell_of_row y3 gp j _ _ _ HBT.out, Array.getElem?_eq_getElem (by exact hj2)]; rfl, HBT.out.frozen j⟩) (by kernel_rfl) (by simp [tcells, Value.oneCell']) ?_
   refine hK _ _ ?_
   clear hK
   (try simp only [Act.put])
   refine wpAnyZ_done (by kernel_rfl) ?_ _
   go_wp2_with fail
   go_meet
   exact ⟨gp, gv, vcv, ge, ece, rfl, hts, Later.of (Below.grown hS (setCells_only _ _) hS.size (fun q e => by injection e with e; have := HPW.out; omega))⟩
 case rest =>
  obtain ⟨p, gv, vc, ge, ec, rfl, hts, lx⟩ := hcut
  have HC := Lib.hid (turnApply_any w1 p wc f s c gv vc ge ec (HS.out.later HL.out) lx hts HCN.out (H3.out.later HL.out))
  clear hts lx HL3 HFS HFL
  go_wp2_with fail
  refine HC.out.mono ?_
  clear HC
  rintro e w5 ⟨l5, ⟨n, v, ho, hn, rfl, hv⟩ | ⟨s', c', gv', vc', ge', ec', ho, rfl, ht⟩⟩
  ·have HX := Lib.hid (show applyM s c = .error n from HAP.out.trans ho)
   have HTL := Lib.hid (tell_any w1 w5 f v n (HS.out.later HL.out) l5 hn hv)
   have HN := Lib.hid hn
   have HL5 := Lib.hid l5
   obtain ⟨pv, rfl, _⟩ := hv
   have hif : Tryd.prog.isIface 80 = true := by kernel_rfl
   have heq := run_eql_iface_nil (P := Tryd.prog) (w := w5) 80 hif 112 (.pointer (some ⟨pv, 0, none⟩))
   clear ho hn l5
   go_wp2_with fail
   refine HTL.out.mono ?_
   rintro e wf ⟨rfl, l6⟩
   have HF3 := Lib.hid (HB3.out.later (HL5.out.trans l6))
   have HF4 := Lib.hid (HB4.out.later (HL5.out.trans l6))
   have HLF := Lib.hid (HL.out.trans (HL5.out.trans l6))
   clear l6 HTL
   obtain ⟨x0, hx0⟩ : ∃ x, wf.setCell ⟨q + 3, 0, none⟩ (.slice none 0 0) = x := ⟨_, rfl⟩
   obtain ⟨x1, hx1⟩ : ∃ x, x0.setCell ⟨q + 3, 1, none⟩ (.int .i64 0) = x := ⟨_, rfl⟩
   obtain ⟨x2, hx2⟩ : ∃ x, x1.setCell ⟨q + 4, 0, none⟩ (.int .i64 0) = x := ⟨_, rfl⟩
   obtain ⟨x3, hx3⟩ : ∃ x, x2.setCell ⟨q + 4, 1, none⟩ (.int .i64 0) = x := ⟨_, rfl⟩
   obtain ⟨x4, hx4⟩ : ∃ x, x3.setCell ⟨q + 4, 2, none⟩ (.int .i64 0) = x := ⟨_, rfl⟩
   obtain ⟨x5, hx5⟩ : ∃ x, x4.setCell ⟨q + 4, 3, none⟩ (.slice none 0 0) = x := ⟨_, rfl⟩
   have c0 := HF3.out.cell 0 _ rfl
   have z0 := HF3.out.frozen 0
   have g0_3 : Blk x0 (q + 3) #[.slice none 0 0, .int .i64 0] 24 := hx0 ▸ HF3.out.set_ 0 _
   have g0_4 : Blk x0 (q + 4) #[.int .i64 0, .int .i64 0, .int .i64 0, .slice none 0 0] 27 := hx0 ▸ HF4.out.far (by show q + 4 ≠ q + 3; omega) _
   have c1 := g0_3.cell 1 _ rfl
   have z1 := g0_3.frozen 1
   have g1_3 : Blk x1 (q + 3) #[.slice none 0 0, .int .i64 0] 24 := hx1 ▸ g0_3.set_ 1 _
   have g1_4 : Blk x1 (q + 4) #[.int .i64 0, .int .i64 0, .int .i64 0, .slice none 0 0] 27 := hx1 ▸ g0_4.far (by show q + 4 ≠ q + 3; omega) _
   have c2 := g1_4.cell 0 _ rfl
   have z2 := g1_4.frozen 0
   have g2_4 : Blk x2 (q + 4) #[.int .i64 0, .int .i64 0, .int .i64 0, .slice none 0 0] 27 := hx2 ▸ g1_4.set_ 0 _
   have g2_3 : Blk x2 (q + 3) #[.slice none 0 0, .int .i64 0] 24 := hx2 ▸ g1_3.far (by show q + 3 ≠ q + 4; omega) _
   have c3 := g2_4.cell 1 _ rfl
   have z3 := g2_4.frozen 1
   have g3_4 : Blk x3 (q + 4) #[.int .i64 0, .int .i64 0, .int .i64 0, .slice none 0 0] 27 := hx3 ▸ g2_4.set_ 1 _
   have g3_3 : Blk x3 (q + 3) #[.slice none 0 0, .int .i64 0] 24 := hx3 ▸ g2_3.far (by show q + 3 ≠ q + 4; omega) _
   have c4 := g3_4.cell 2 _ rfl
   have z4 := g3_4.frozen 2
   have g4_4 : Blk x4 (q + 4) #[.int .i64 0, .int .i64 0, .int .i64 0, .slice none 0 0] 27 := hx4 ▸ g3_4.set_ 2 _
   have g4_3 : Blk x4 (q + 3) #[.slice none 0 0, .int .i64 0] 24 := hx4 ▸ g3_3.far (by show q + 3 ≠ q + 4; omega) _
   have c5 := g4_4.cell 3 _ rfl
   have z5 := g4_4.frozen 3
   have g5_4 : Blk x5 (q + 4) #[.int .i64 0, .int .i64 0, .int .i64 0, .slice none 0 0] 27 := hx5 ▸ g4_4.set_ 3 _
   have g5_3 : Blk x5 (q + 3) #[.slice none 0 0, .int .i64 0] 24 := hx5 ▸ g4_3.far (by show q + 3 ≠ q + 4; omega) _
   have r0 := g5_3.cell 0 _ rfl
   have r1 := g5_3.cell 1 _ rfl
   have r2 := g5_4.cell 0 _ rfl
   have r3 := g5_4.cell 1 _ rfl
   have r4 := g5_4.cell 2 _ rfl
   have r5 := g5_4.cell 3 _ rfl
   have q3 : w.heap.size ≤ q + 3 := by rw [HQ.out]; omega
   have q4 : w.heap.size ≤ q + 4 := by rw [HQ.out]; omega
   have HLF2 := Lib.hid (show Later w x5 from hx5 ▸ hx4 ▸ hx3 ▸ hx2 ▸ hx1 ▸ hx0 ▸ (((((HLF.out.set_ q3 _).set_ q3 _).set_ q4 _).set_ q4 _).set_ q4 _).set_ q4 _)
   clear g0_3 g0_4 g1_3 g1_4 g2_3 g2_4 g3_3 g3_4 g4_3 g4_4 g5_3 g5_4 HF3 HF4 q3 q4
   go_wp2_with fail
   exact bodyPost_ret (v := .tuple #[.agg #[.slice none 0 0, .int .i64 0], .agg #[.int .i64 0, .int .i64 0, .int .i64 0, .slice none 0 0], .int .i64 n]) (by simp [results, Tryd.results14, go_sem, r0, r1, r2, r3, r4, r5]) rfl ⟨HLF2.out, .inl ⟨n, HX.out, HN.out, rfl⟩⟩
  ·have HX := Lib.hid (show applyM s c = .ok s' from HAP.out.trans ho)
   have HT := Lib.hid ht
   have d0 := ht.d0
   have d1 := ht.d1
   have d2 := ht.d2
   have d3 := ht.d3
   have d4 := ht.d4
   have d5 := ht.d5
   obtain ⟨wf, hwf⟩ : ∃ x, x = w5 := ⟨_, rfl⟩
   rw [← hwf] at d0 d1 d2 d3 d4 d5 HT l5 ⊢
   have HF3 := Lib.hid (HB3.out.later l5)
   have HF4 := Lib.hid (HB4.out.later l5)
   have HLF := Lib.hid (HL.out.trans l5)
   clear ho ht l5 hwf
   obtain ⟨x0, hx0⟩ : ∃ x, wf.setCell ⟨q + 3, 0, none⟩ (.slice (some ⟨gv', 0, none⟩) s'.1.length vc') = x := ⟨_, rfl⟩
   obtain ⟨x1, hx1⟩ : ∃ x, x0.setCell ⟨q + 3, 1, none⟩ (.int .i64 s'.2.1) = x := ⟨_, rfl⟩
   obtain ⟨x2, hx2⟩ : ∃ x, x1.setCell ⟨q + 4, 0, none⟩ (.int .i64 s'.2.2.sb) = x := ⟨_, rfl⟩
   obtain ⟨x3, hx3⟩ : ∃ x, x2.setCell ⟨q + 4, 1, none⟩ (.int .i64 s'.2.2.pb) = x := ⟨_, rfl⟩
   obtain ⟨x4, hx4⟩ : ∃ x, x3.setCell ⟨q + 4, 2, none⟩ (.int .i64 s'.2.2.parts) = x := ⟨_, rfl⟩
   obtain ⟨x5, hx5⟩ : ∃ x, x4.setCell ⟨q + 4, 3, none⟩ (.slice (some ⟨ge', 0, none⟩) s'.2.2.enc.length ec') = x := ⟨_, rfl⟩
   have c0 := HF3.out.cell 0 _ rfl
   have z0 := HF3.out.frozen 0
   have g0_3 : Blk x0 (q + 3) #[.slice (some ⟨gv', 0, none⟩) s'.1.length vc', .int .i64 0] 24 := hx0 ▸ HF3.out.set_ 0 _
   have g0_4 : Blk x0 (q + 4) #[.int .i64 0, .int .i64 0, .int .i64 0, .slice none 0 0] 27 := hx0 ▸ HF4.out.far (by show q + 4 ≠ q + 3; omega) _
   have c1 := g0_3.cell 1 _ rfl
   have z1 := g0_3.frozen 1
   have g1_3 : Blk x1 (q + 3) #[.slice (some ⟨gv', 0, none⟩) s'.1.length vc', .int .i64 s'.2.1] 24 := hx1 ▸ g0_3.set_ 1 _
   have g1_4 : Blk x1 (q + 4) #[.int .i64 0, .int .i64 0, .int .i64 0, .slice none 0 0] 27 := hx1 ▸ g0_4.far (by show q + 4 ≠ q + 3; omega) _
   have c2 := g1_4.cell 0 _ rfl
   have z2 := g1_4.frozen 0
   have g2_4 : Blk x2 (q + 4) #[.int .i64 s'.2.2.sb, .int .i64 0, .int .i64 0, .slice none 0 0] 27 := hx2 ▸ g1_4.set_ 0 _
   have g2_3 : Blk x2 (q + 3) #[.slice (some ⟨gv', 0, none⟩) s'.1.length vc', .int .i64 s'.2.1] 24 := hx2 ▸ g1_3.far (by show q + 3 ≠ q + 4; omega) _
   have c3 := g2_4.cell 1 _ rfl
   have z3 := g2_4.frozen 1
   have g3_4 : Blk x3 (q + 4) #[.int .i64 s'.2.2.sb, .int .i64 s'.2.2.pb, .int .i64 0, .slice none 0 0] 27 := hx3 ▸ g2_4.set_ 1 _
   have g3_3 : Blk x3 (q + 3) #[.slice (some ⟨gv', 0, none⟩) s'.1.length vc', .int .i64 s'.2.1] 24 := hx3 ▸ g2_3.far (by show q + 3 ≠ q + 4; omega) _
   have c4 := g3_4.cell 2 _ rfl
   have z4 := g3_4.frozen 2
   have g4_4 : Blk x4 (q + 4) #[.int .i64 s'.2.2.sb, .int .i64 s'.2.2.pb, .int .i64 s'.2.2.parts, .slice none 0 0] 27 := hx4 ▸ g3_4.set_ 2 _
   have g4_3 : Blk x4 (q + 3) #[.slice (some ⟨gv', 0, none⟩) s'.1.length vc', .int .i64 s'.2.1] 24 := hx4 ▸ g3_3.far (by show q + 3 ≠ q + 4; omega) _
   have c5 := g4_4.cell 3 _ rfl
   have z5 := g4_4.frozen 3
   have g5_4 : Blk x5 (q + 4) #[.int .i64 s'.2.2.sb, .int .i64 s'.2.2.pb, .int .i64 s'.2.2.parts, .slice (some ⟨ge', 0, none⟩) s'.2.2.enc.length ec'] 27 := hx5 ▸ g4_4.set_ 3 _
   have g5_3 : Blk x5 (q + 3) #[.slice (some ⟨gv', 0, none⟩) s'.1.length vc', .int .i64 s'.2.1] 24 := hx5 ▸ g4_3.far (by show q + 3 ≠ q + 4; omega) _
   have r0 := g5_3.cell 0 _ rfl
   have r1 := g5_3.cell 1 _ rfl
   have r2 := g5_4.cell 0 _ rfl
   have r3 := g5_4.cell 1 _ rfl
   have r4 := g5_4.cell 2 _ rfl
   have r5 := g5_4.cell 3 _ rfl
   have q3 : w.heap.size ≤ q + 3 := by rw [HQ.out]; omega
   have q4 : w.heap.size ≤ q + 4 := by rw [HQ.out]; omega
   have HLF2 := Lib.hid (show Later w x5 from hx5 ▸ hx4 ▸ hx3 ▸ hx2 ▸ hx1 ▸ hx0 ▸ (((((HLF.out.set_ q3 _).set_ q3 _).set_ q4 _).set_ q4 _).set_ q4 _).set_ q4 _)
   have hb3 : q + 3 < w1.heap.size := HB3.out.lt
   have hb4 : q + 4 < w1.heap.size := HB4.out.lt
   have HOV := Lib.hid (own_weak (show x5.ownsRow w1.heap.size 59 3 (.slice (some ⟨gv', 0, none⟩) s'.1.length vc') s'.1.length (fc s'.1) from hx5 ▸ hx4 ▸ hx3 ▸ hx2 ▸ hx1 ▸ hx0 ▸ own_setFar (own_setFar (own_setFar (own_setFar (own_setFar (own_setFar HT.out.cols hb3 _) hb3 _) hb4 _) hb4 _) hb4 _) hb4 _) HL.out.size)
   have HOE := Lib.hid (own_weak (show x5.ownsRow w1.heap.size 3 1 (.slice (some ⟨ge', 0, none⟩) s'.2.2.enc.length ec') s'.2.2.enc.length (ein s'.2.2.enc) from hx5 ▸ hx4 ▸ hx3 ▸ hx2 ▸ hx1 ▸ hx0 ▸ own_setFar (own_setFar (own_setFar (own_setFar (own_setFar (own_setFar HT.out.encs hb3 _) hb3 _) hb4 _) hb4 _) hb4 _) hb4 _) HL.out.size)
   have hpp := HT.out.hp
   have hpb : Blk x1 p (tcells s' c' gv' vc' ge' ec') 78 := hx1 ▸ Blk.far (hx0 ▸ HT.out.blk.far (by show p ≠ q + 3; omega) _) (by show p ≠ q + 3; omega) _
   have y2 : x1.cell? ⟨p, 2, none⟩ = some (.int .i64 s'.2.2.sb) := hpb.cell 2 _ rfl
   have y3 : x1.cell? ⟨p, 3, none⟩ = some (.int .i64 s'.2.2.pb) := hpb.cell 3 _ rfl
   have y4 : x1.cell? ⟨p, 4, none⟩ = some (.int .i64 s'.2.2.parts) := hpb.cell 4 _ rfl
   have y5 : x1.cell? ⟨p, 5, none⟩ = some (.slice (some ⟨ge', 0, none⟩) s'.2.2.enc.length ec') := hpb.cell 5 _ rfl
   clear hb3 hb4 hpp hpb
   clear g0_3 g0_4 g1_3 g1_4 g2_3 g2_4 g3_3 g3_4 g4_3 g4_4 g5_3 g5_4 HF3 HF4 q3 q4
   go_wp2_with fail
   go_region
   all_goals (try go_wp2_with fail)
   exact bodyPost_ret (v := .tuple #[.agg #[.slice (some ⟨gv', 0, none⟩) s'.1.length vc', .int .i64 s'.2.1], .agg #[.int .i64 s'.2.2.sb, .int .i64 s'.2.2.pb, .int .i64 s'.2.2.parts, .slice (some ⟨ge', 0, none⟩) s'.2.2.enc.length ec'], .int .i64 0]) (by simp [results, Tryd.results14, go_sem, r0, r1, r2, r3, r4, r5]) rfl ⟨HLF2.out.drew, .inr ⟨s', gv', vc', ge', ec', HX.out, rfl, own_later HOV.out (Later.refl _).drew, own_later HOE.out (Later.refl _).drew, HT.out.ne3, HT.out.lens, HT.out.small, HT.out.last⟩⟩
end Go.Proofs.YtklohbglkbhjhaaDoor
