
import Derived.Test.YtklohbglkbhjhaaDoorRApply
import Derived.Test.YtklohbglkbhjhaaDoorRefFR
import Derived.Test.YtklohbglkbhjhaaDoorStayM
import Derived.Test.YtklohbglkbhjhaaDoorPlayC
import Derived.Test.YtklohbglkbhjhaaDoorIdsM
import Derived.Test.YtklohbglkbhjhaaDoorRowsM
import Derived.Test.YtklohbglkbhjhaaDoorBase
import Derived.Test.YtklohbglkbhjhaaDoorChgE
import Derived.Test.YtklohbglkbhjhaaDoorPlayS
import Derived.Test.YtklohbglkbhjhaaDoorSchC
import Derived.Test.YtklohbglkbhjhaaDoorPlayV
import Derived.Test.YtklohbglkbhjhaaDoorPlayN
import Derived.Test.YtklohbglkbhjhaaDoorRefSch
import Derived.Test.YtklohbglkbhjhaaDoorRApA
import Derived.Test.YtklohbglkbhjhaaDoorRApT
import Derived.Test.YtklohbglkbhjhaaDoorRApD
import Derived.Test.YtklohbglkbhjhaaDoorRApL
import Derived.Test.YtklohbglkbhjhaaDoorSchA
import Derived.WalkKit
import Derived.Laws.OwnMore
import Derived.Laws.BytesArg
import Derived.Laws.Rows
import Derived.Deep.AppendLies
import Derived.Deep.Draws
import Derived.Test.YtklohbglkbhjhaaDoorChecked
import Derived.Deep.OwnRows
import Derived.Lib.Hide
import Derived.Deep.Quiet
import Derived.Laws.AppendOwnNone
import Derived.Lib.Strings
import Derived.Outline
import Derived.WalkLawsBesides
import Derived.WalkSpells
import Derived.PlainAid
import Derived.Deep.QuietTactic
import Derived.BigQuiet
import Derived.RegionTactic
import Derived.BigRegion
import Derived.Handy
import Derived.Laws.BitsAllLaws
import Derived.Deep.RegionWith
import Derived.Lib.AppendStr
import Derived.Deep.RegionLaw
import Derived.Maps.AppendAt
import Derived.OpenShut
import Derived.WideShapes
import Derived.ChangeArms
import Derived.Deep.Slices
import Derived.Sort.Grow
import Derived.Lib.SliceRun
import Derived.Shelf.Spec.SlicesInsert
import Derived.Lib.Overlaps
import Derived.Lib.AppendZerosOnto
import Derived.OrdersHeld
import Derived.LaidEql
import Derived.Stop.Asserts
import Derived.RowKitTokens
import Derived.Stop.IfaceNil
import Derived.Laws.BitsLemmas
import Derived.Laws.Bits64
import Derived.WalkSmall
import Derived.Lib.Bytealg
import Derived.Deep.SlicePairs
import Derived.Deep.CutBlock
import Derived.Deep.MidRow
import Derived.Laws.StructEq
import Derived.Shelf.Abstract
import Derived.Lib.QuietBelow
import Derived.Deep.CutRange
import Derived.Test.YtklohbglkbhjhaaDoorShelf
import Derived.Lib.IndexLaws
/- Light; what Apply gives, in one form; the document's and the program's. -/





namespace Go.Proofs.YtklohbglkbhjhaaDoor
open Go.RowKit
set_option linter.unusedVariables false

/-- What a change leaves: what comes, or nothing. -/
def outS (o : Except Int St3) : St3 := match o with | .ok s => s | .error _ => ([], 0, ⟨0, 0, 0, []⟩)
theorem ApV.out {B : Nat} {s : St3} {c : Chg} {w : World} {A : Option Addr} {n cp : Nat} {last sb pb parts : Int} {E : Option Addr} {en ec : Nat} {ev : Int} (h : ApV B s c w A n cp last sb pb parts E en ec ev) :
    n = (outS (applyM s c)).1.length ∧ last = (outS (applyM s c)).2.1 ∧ sb = (outS (applyM s c)).2.2.sb ∧ pb = (outS (applyM s c)).2.2.pb ∧ parts = (outS (applyM s c)).2.2.parts ∧ en = (outS (applyM s c)).2.2.enc.length ∧ ev = errOf (applyM s c) ∧ Has w A (fc (outS (applyM s c)).1) ∧ Has w E (ein (outS (applyM s c)).2.2.enc) := by
  rcases h with ⟨k, h1, _, h2, hA, hn, hc, hl, hs, hp, hq, hE, he, hec⟩ | ⟨s', gv, ge, h1, h2, h3, h4, h5, h6, h7, h8, h9, h10, o1, o2, _⟩
  · rw [h1]
    subst h2 hA hn hc hl hs hp hq hE he hec
    exact ⟨rfl, rfl, rfl, rfl, rfl, rfl, rfl, .inl rfl, .inl rfl⟩
  · rw [h1]
    subst h2 h3 h4 h5 h6 h7 h8 h9 h10
    exact ⟨rfl, rfl, rfl, rfl, rfl, rfl, rfl, Has.ownG o1, Has.ownG o2⟩
theorem RApP.v {s : St3} {c : Chg} {w w' : World} {e : Ending} (h : RApP s c w e w') {B : Nat} (hB : B ≤ w.heap.size) : ∃ (A : Option Addr) (n cp : Nat) (last sb pb parts : Int) (E : Option Addr) (en ec : Nat) (ev : Int),
    e = .returned (.tuple #[.agg #[.slice A n cp, .int .i64 last], .agg #[.int .i64 sb, .int .i64 pb, .int .i64 parts, .slice E en ec], .int .i64 ev]) ∧ ApV B s c w' A n cp last sb pb parts E en ec ev ∧ Later w w' := by
  obtain ⟨l, ⟨k, h1, hk, he⟩ | ⟨t, gv, vc, ge, ec, h1, he, ov, oe⟩⟩ := h
  · exact ⟨none, 0, 0, 0, 0, 0, 0, none, 0, 0, k, he, .inl ⟨k, h1, hk, rfl, rfl, rfl, rfl, rfl, rfl, rfl, rfl, rfl, rfl, rfl⟩, l⟩
  · have h2 := h1
    unfold applyM at h2
    by_cases hm : MayS s.1 s.2.1 ∧ MayLy s.1 s.2.2
    · rw [if_pos hm] at h2
      have hk := keep_any (mayS_iff.1 hm.1) (mayLy_iff.1 hm.2) h2
      have hne : gv ≠ ge := by
        obtain ⟨c1, hc1⟩ := own_typ ov
        obtain ⟨c2, hc2⟩ := own_typ oe
        exact ne_typ hc1 hc2 (by decide)
      have hpos : 1 ≤ t.2.1 := by
        have h0 : 0 < t.1.length := by have := hk.may.len; omega
        have := (hk.may.col _ (List.getElem_mem h0)).1
        omega
      exact ⟨_, _, _, _, _, _, _, _, _, _, _, he, .inr ⟨t, gv, ge, h1, rfl, rfl, rfl, rfl, rfl, rfl, rfl, rfl, rfl, own_weak ov hB, own_weak oe hB, hne, hk.lay.len, hk.may.len, hpos, hk.may.last⟩, l⟩
    · rw [if_neg hm] at h2; cases h2
/-- What one round reads: a schema, a layout, a change. -/
structure RIn (w : World) (g1 g2 g3 k : Nat) (V : Option Addr) (vc : Nat) (E : Option Addr) (ec : Nat) (s : St3) (c : Chg) : Prop where
  a0 : w.cell? ⟨g1, k * 2, none⟩ = some (.slice V s.1.length vc)
  a1 : w.cell? ⟨g1, k * 2 + 1, none⟩ = some (.int .i64 s.2.1)
  b0 : w.cell? ⟨g2, k * 4, none⟩ = some (.int .i64 s.2.2.sb)
  b1 : w.cell? ⟨g2, k * 4 + 1, none⟩ = some (.int .i64 s.2.2.pb)
  b2 : w.cell? ⟨g2, k * 4 + 2, none⟩ = some (.int .i64 s.2.2.parts)
  b3 : w.cell? ⟨g2, k * 4 + 3, none⟩ = some (.slice E s.2.2.enc.length ec)
  c0 : w.cell? ⟨g3, k * 9, none⟩ = some (.int .i64 c.kind)
  c1 : w.cell? ⟨g3, k * 9 + 1, none⟩ = some (.int .i64 c.col)
  c2 : w.cell? ⟨g3, k * 9 + 2, none⟩ = some (.string c.name)
  c3 : w.cell? ⟨g3, k * 9 + 3, none⟩ = some (.int .i64 c.typ)
  c4 : w.cell? ⟨g3, k * 9 + 4, none⟩ = some (.int .i64 c.val.1)
  c5 : w.cell? ⟨g3, k * 9 + 5, none⟩ = some (.int .i64 c.val.2.1)
  c6 : w.cell? ⟨g3, k * 9 + 6, none⟩ = some (.string c.val.2.2)
  c7 : w.cell? ⟨g3, k * 9 + 7, none⟩ = some (.int .u8 c.sep)
  c8 : w.cell? ⟨g3, k * 9 + 8, none⟩ = some (.int .i64 c.num)
  hv : Has w V (fc s.1)
  he : Has w E (ein s.2.2.enc)
  ln : s.1.length ≤ 9 ∧ s.2.2.enc.length ≤ 9
  nm : ∀ x ∈ s.1, x.2.1.size ≤ 9223372036854775807
  cn : c.name.size ≤ 9223372036854775807
  vn : V = none → vc = 0
  en : E = none → ec = 0
theorem RIn.later {w w' : World} {g1 g2 g3 k : Nat} {V : Option Addr} {vc : Nat} {E : Option Addr} {ec : Nat} {s : St3} {c : Chg} (h : RIn w g1 g2 g3 k V vc E ec s c) (l : Later w w') : RIn w' g1 g2 g3 k V vc E ec s c :=
  ⟨l.cell h.a0, l.cell h.a1, l.cell h.b0, l.cell h.b1, l.cell h.b2, l.cell h.b3, l.cell h.c0, l.cell h.c1, l.cell h.c2, l.cell h.c3, l.cell h.c4, l.cell h.c5, l.cell h.c6, l.cell h.c7, l.cell h.c8, h.hv.later l, h.he.later l, h.ln, h.nm, h.cn, h.vn, h.en⟩
end Go.Proofs.YtklohbglkbhjhaaDoor

/- SchemaStays: where things lie; Over. -/





namespace Go.Proofs.YtklohbglkbhjhaaDoor
open Go.RowKit
set_option linter.unusedVariables false

/-- Where the schema, the layout and the picks lie. -/
structure StA (B gs gl gp : Nat) (s : St3) (gv vc ge ec : Nat) (A : Option Addr) (n c : Nat) (wr : World) : Prop where
  bs : Blk wr gs #[.slice (some ⟨gv, 0, none⟩) s.1.length vc, .int .i64 s.2.1] 24
  bl : Blk wr gl #[.int .i64 s.2.2.sb, .int .i64 s.2.2.pb, .int .i64 s.2.2.parts, .slice (some ⟨ge, 0, none⟩) s.2.2.enc.length ec] 27
  ov : wr.ownsRow B 59 3 (.slice (some ⟨gv, 0, none⟩) s.1.length vc) s.1.length (fc s.1)
  oe : wr.ownsRow B 3 1 (.slice (some ⟨ge, 0, none⟩) s.2.2.enc.length ec) s.2.2.enc.length (ein s.2.2.enc)
  pk : ∃ k, k ≤ n ∧ Pk wr gp A n c k
  hb : B ≤ gs ∧ B ≤ gl ∧ B ≤ gp
theorem own_far2 {B : Nat} {e : TypeId} {size n c g gp : Nat} {xs : List Value} {w w' : World} (h : w.ownsRow B e size (.slice (some ⟨g, 0, none⟩) n c) n xs) (f : Far gp w w') (hne : g ≠ gp) : w'.ownsRow B e size (.slice (some ⟨g, 0, none⟩) n c) n xs :=
  own_block h fun q hq => f.2.2 q (own_at h hq).2 (by injection hq with hq; subst hq; exact hne)
theorem far_later {g : Nat} {w w' w'' : World} (l : Later w w') (f : Far g w' w'') (hg : w.heap.size ≤ g) : Later w w'' :=
  show Below w.heap.size w w'' from (Later.below l).trans (f.2.1.mono hg)
theorem HasX.mk4 {w : World} {b off e : Nat} {xs : List Value} (h : Has w (some ⟨b, off, none⟩) xs) (hne : b ≠ e) : HasX (some e) w (some ⟨b, off, none⟩) xs := by
  rcases h with h | ⟨b', off', hA, hb, hc⟩
  · exact .inl h
  · injection hA with hA; injection hA with e1 e2
    subst e1 e2
    exact .inr ⟨b, off, rfl, hb, fun e => by injection e with e; exact hne e, hc⟩
section
variable {B gs gl gp : Nat} {s s' : St3} {gv vc ge ec gv' c4 ge' ec4 : Nat} {A : Option Addr} {n c : Nat} {wr w' : World}
theorem StA.later (h : StA B gs gl gp s gv vc ge ec A n c wr) (l : Later wr w') : StA B gs gl gp s gv vc ge ec A n c w' :=
  ⟨h.bs.later l, h.bl.later l, own_later h.ov l, own_later h.oe l, h.pk.elim fun k hk => ⟨k, hk.1, hk.2.later l⟩, h.hb⟩
theorem StA.nes (h : StA B gs gl gp s gv vc ge ec A n c wr) : gs ≠ gp ∧ gl ≠ gp ∧ gv ≠ gp ∧ ge ≠ gp := by
  obtain ⟨k, _, hk⟩ := h.pk
  obtain ⟨_, h1⟩ := own_typ h.ov
  obtain ⟨_, h2⟩ := own_typ h.oe
  exact ⟨ne_typ h.bs hk (by decide), ne_typ h.bl hk (by decide), ne_typ h1 hk (by decide), ne_typ h2 hk (by decide)⟩
theorem StA.far (h : StA B gs gl gp s gv vc ge ec A n c wr) (f : Far gp wr w') {bs : List Nat} (hp : Pks w' gp A n c bs) : StA B gs gl gp s gv vc ge ec A n c w' := by
  obtain ⟨n1, n2, n3, n4⟩ := h.nes
  exact ⟨f.blk h.bs n1, f.blk h.bl n2, own_far2 h.ov f n3, own_far2 h.oe f n4, hp.pk, h.hb⟩
end
/-- Where SchemaStays' loop stands. -/
def StR (w0 : World) (gs gl gp : Nat) (A : Option Addr) (n c : Nat) (iv : Value) (wr : World) : Prop :=
  ∃ (i : Nat) (s : St3) (gv vc ge ec : Nat), iv = .int .i64 i ∧ i ≤ 12 ∧ MayQ s.1 s.2.1 ∧ LayQ (s.1.map (·.1)) s.1.length s.2.2 ∧ StA w0.heap.size gs gl gp s gv vc ge ec A n c wr ∧ Later w0 wr
theorem StR.mk {w0 wr : World} {gs gl gp : Nat} {A : Option Addr} {n c : Nat} (y : Int) (i : Nat) (s : St3) (gv vc ge ec : Nat) (hy : y = (i : Int)) (hi : i ≤ 12) (h1 : MayQ s.1 s.2.1) (h2 : LayQ (s.1.map (·.1)) s.1.length s.2.2) (h3 : StA w0.heap.size gs gl gp s gv vc ge ec A n c wr) (l : Later w0 wr) : StR w0 gs gl gp A n c (.int .i64 y) wr := by
  subst hy; exact ⟨i, s, gv, vc, ge, ec, rfl, hi, h1, h2, h3, l⟩

end Go.Proofs.YtklohbglkbhjhaaDoor

/- The walk of rabbetplay's Rows. -/

namespace Go.Proofs.YtklohbglkbhjhaaDoor
open Go.RowKit
set_option linter.unusedVariables false

/-- A slice of values that lies above all that was there. -/
def SlV.above (base : Nat) (s : SlV) : Prop := ∀ b off, s.a = some ⟨b, off, none⟩ → base ≤ b
theorem RowsOn.far {base : Nat} {g : Nat} {w w' : World} {A : Option Addr} {n c : Nat} {ss : List SlV} (h : RowsOn base w A n c ss) (hf : Far g w w') (hb : g < base) (ha : ∀ s ∈ ss, s.above (g + 1)) : RowsOn base w' A n c ss := by
  refine ⟨h.1, hf.own hb h.2.1, fun s hs => ⟨?_, (h.2.2.1 s hs).2⟩, h.2.2.2⟩
  rcases (h.2.2.1 s hs).1 with hx | ⟨b, off, hA, hlt, hne, hc⟩
  · exact .inl hx
  · exact .inr ⟨b, off, hA, Nat.lt_of_lt_of_le hlt hf.size, hne, fun k v hv => by rw [cell_block (hf.2.2 b hlt (by have := ha s hs b off hA; omega))]; exact hc k v hv⟩
theorem own_at2 {w : World} {base : Nat} {e : TypeId} {k : Nat} {v : Value} {n : Nat} {xs : List Value} (h : w.ownsRow base e k v n xs) {q : Nat} (hq : v.ownBlock = some q) : base ≤ q ∧ q < w.heap.size := h.lt q hq
/-- Rows, as Row makes them. -/
def FitRs (xs : List Col3) (base : Nat) (ss : List SlV) : Prop := ∀ s ∈ ss, s.above base ∧ s.l.length = xs.length ∧ FitR xs s.l
def MadeRows (xs : List Col3) (N : Nat) (g : Nat) (A : Option Addr) (n c : Nat) (bs : List Nat) (w : World) (e : Ending) (w' : World) : Prop :=
  ∃ (ss : List SlV) (L : Option Addr) (lc : Nat), e = .returned (.slice L N lc) ∧ ss.length = N ∧ RowsOn w.heap.size w' L N lc ss ∧ FitRs xs w.heap.size ss ∧ Pks w' g A n c bs ∧ Far g w w'
/-- Where Rows' loop stands. -/
def RoJ (xs : List Col3) (N : Nat) (g : Nat) (A : Option Addr) (n c : Nat) (bs : List Nat) (V : Option Addr) (vc : Nat) (last : Int) (w : World) (lv iv : Value) (wr : World) : Prop :=
  ∃ (ss : List SlV) (L : Option Addr) (lc k : Nat), lv = .slice L k lc ∧ iv = .int .i64 k ∧ ss.length = k ∧ k ≤ N ∧ RowsOn (w.heap.size + 1) wr L k lc ss ∧ FitRs xs (w.heap.size + 1) ss ∧ Pks wr g A n c bs ∧ Far g w wr ∧ Blk wr w.heap.size #[.slice V xs.length vc, .int .i64 last] 24
theorem RoJ.mk {xs : List Col3} {N g : Nat} {A : Option Addr} {n c : Nat} {bs : List Nat} {V : Option Addr} {vc : Nat} {last : Int} {w wr : World} (y : Int) (ss : List SlV) (L : Option Addr) (m lc k : Nat) (hm : m = k) (hy : y = (k : Int)) (hk : ss.length = k) (hkN : k ≤ N) (ho : RowsOn (w.heap.size + 1) wr L m lc ss) (hf : FitRs xs (w.heap.size + 1) ss)
    (hp : Pks wr g A n c bs) (hF : Far g w wr) (hB : Blk wr w.heap.size #[.slice V xs.length vc, .int .i64 last] 24) : RoJ xs N g A n c bs V vc last w (.slice L m lc) (.int .i64 y) wr := by
  subst hy hm; exact ⟨ss, L, lc, m, rfl, rfl, hk, hkN, ho, hf, hp, hF, hB⟩

set_option maxRecDepth 100000 in
set_option maxHeartbeats 4000000 in
theorem rows_any (N : Nat) (g : Nat) (A : Option Addr) (n c : Nat) (bs : List Nat) (V : Option Addr) (vn vc : Nat) (last : Int) (xs : List Col3) (w : World) (hc : PkC n bs) (hp : Pks w g A n c bs) (hvn : vn = xs.length) (hl : vn ≤ 1000) (hN : N ≤ 1000) (hV : HasX (some g) w V (fc xs)) :
    Calls Tryd.prog 33 #[.pointer (some ⟨g, 0, none⟩), .agg #[.slice V vn vc, .int .i64 last], .int .i64 N] w (MadeRows xs N g A n c bs w) := by
  obtain ⟨h0, hh0⟩ : ∃ x, w.heap.size = x := ⟨_, rfl⟩
  obtain ⟨w1, hw1⟩ : ∃ x : World, w.alloc (.cells #[.slice V vn vc, .int .i64 last] 24) = x := ⟨_, rfl⟩
  have l1 : Later w w1 := hw1 ▸ Later.new w _
  have HI0 := Lib.hid (RoJ.mk (xs := xs) (N := N) (g := g) (A := A) (n := n) (c := c) (bs := bs) (V := V) (vc := vc) (last := last) (w := w) (wr := w1) 0 [] none 0 0 0 rfl rfl rfl (Nat.zero_le _) (RowsOn.nil_ _ _) (fun s hs => by cases hs) (hp.later l1) (Far.of hp.lt l1) (hvn ▸ hw1 ▸ Blk.new _ _ _ _ rfl))
  have HV := Lib.hid hV
  have HVN := Lib.hid hvn
  have HG := Lib.hid hp.lt
  have HS1 := Lib.hid (show w1.heap.size = h0 + 1 by rw [← hw1, ← hh0]; simp)
  clear l1 hp hV hvn
  go_enter Tryd.func33, Tryd.ntmps33
  go_wp2_with fail
  clear hw1
  go_loopw [7, 8] (fun lv iv wr => RoJ xs N g A n c bs V vc last w lv iv wr) (fun _ i _ => N - (intOf i).toNat)
  case atStart => exact HI0.out
  case round =>
    obtain ⟨ss, L, lc, k, rfl, rfl, hss, hkN, hon, hfit, hpk, hfar, hblk⟩ := hrel
    have HFIT := Lib.hid hfit
    have HBLK := Lib.hid hblk
    have HFAR := Lib.hid hfar
    have HSS := Lib.hid hss
    have HON := Lib.hid hon
    rw [← HVN.out, hh0] at hblk
    have c0 := hblk.cell 0 _ rfl
    have c1 := hblk.cell 1 _ rfl
    clear HI0 hfit hfar hblk hss hon
    by_cases hlt : k < N
    · have hkl : (k : Int) < (N : Int) := by omega
      have HRW := Lib.hid (row_any g A n c bs V vn vc last xs wr hc hpk HVN.out hl (HV.out.far HFAR.out))
      clear hpk
      go_wp2_with fail
      refine HRW.out.mono ?_
      rintro e wn ⟨row, R, rc, rfl, hrl, hfr, ho, hrn, hp2, hf2⟩
      have HP2 := Lib.hid hp2
      have HF2 := Lib.hid (HFAR.out.trans hf2)
      have HB2 := Lib.hid (hf2.blk HBLK.out (by have := HG.out; omega))
      have HABV := Lib.hid (fun s hs b off e => by have := (HFIT.out s hs).1 b off e; have := HG.out; omega : ∀ s ∈ ss, s.above (g + 1))
      have hon2 := HON.out.far hf2 (by have := HG.out; omega) HABV.out
      have HOKR := Lib.hid (show (⟨R, rc, row⟩ : SlV).okX (Value.slice L k lc).ownBlock wn from SlV.okX.own ho rfl hrn fun q hq => (HON.out.2.1.lt q hq).2)
      have HFR := Lib.hid (show SlV.above (w.heap.size + 1) ⟨R, rc, row⟩ ∧ row.length = xs.length ∧ FitR xs row from ⟨fun b off e => by
        have e : R = some ⟨b, off, none⟩ := e
        rw [e] at ho
        have := (own_at2 (q := b) ho rfl).1
        have := HFAR.out.size
        have := HBLK.out.lt
        omega, hrl, hfr⟩)
      have HOA := Lib.hid (fun (o : Obj) => hon2.later (Later.new wn o))
      have HOKA := Lib.hid (fun (o : Obj) => HOKR.out.later (Later.new wn o))
      have HSZ := Lib.hid (show w.heap.size + 1 ≤ wn.heap.size from HB2.out.lt)
      obtain ⟨rn, hrnn⟩ : ∃ x, row.length = x := ⟨_, rfl⟩
      have HRL := Lib.hid (show (⟨R, rc, row⟩ : SlV).v = .slice R rn rc by rw [SlV.v_eq, ← hrnn])
      have HBK := Lib.hid (fun (wz : World) => Blk.new wz #[.slice R rn rc] 33 wz.heap.size rfl)
      rw [hrnn]
      clear hp2 hf2 c0 c1 hon2 hrl hfr ho hrn HRW hrnn
      go_wp2_with (at_builtin; refine wpList_append_x _ rfl (.tmp 14) (.tmp 18) 65 rfl (w.heap.size + 1) 33 _ 1 24 Tryd.underlying65 info_row rfl (by decide) _ k _ rfl (HOA.out _).2.1 _ 0 1 1 [.slice R rn rc] rfl (HBK.out wn).has rfl (by intro u hu; rw [List.mem_singleton] at hu; subst hu; rfl) (by unfold maxLen; omega) (by omega) (by have := HSZ.out; simp; omega) ?_; rintro A' c' wq hO hgr hbel hat hn2; have HO2 := Lib.hid (RowsOn.more (s := ⟨R, rc, row⟩) (HOA.out _) (HOKA.out _) (by rw [HRL.out]; exact hO) hgr hat hn2); have HL2 := Lib.hid (((Later.new wn _).below.mono HSZ.out).trans hbel); clear hO hn2 hbel hgr hat)
      go_roundw
      all_goals first
        | exact RoJ.mk _ (ss ++ [⟨R, rc, row⟩]) _ _ _ (k + 1) (by omega) (by omega) (by rw [List.length_append, HSS.out]; rfl) (by omega) HO2.out (by intro s hs; rcases List.mem_append.1 hs with h | h; exact HFIT.out s h; rw [List.mem_singleton] at h; subst h; exact HFR.out) (HP2.out.below HL2.out (by have := HG.out; omega)) (HF2.out.below (HL2.out.mono (by omega))) ((HL2.out.block _ (Nat.lt_succ_self _)).trans HB2.out)
        | (simp [intOf]; done)
        | (simp [intOf]; omega)
    · have hkn : k = N := by omega
      have HKN := Lib.hid hkn
      clear hkn
      go_wp2_with fail
      go_ret
      have hk := HKN.out
      subst hk
      obtain ⟨o1, o2, o3, o4⟩ := HON.out
      refine ⟨ss, L, lc, rfl, HSS.out, ⟨o1, ?_, o3, o4⟩, fun s hs => ⟨fun b off e => by have := (HFIT.out s hs).1 b off e; omega, (HFIT.out s hs).2⟩, hpk, HFAR.out⟩
      obtain ⟨p1, p2⟩ := o2
      refine ⟨p1, ?_⟩
      rcases p2 with p2 | ⟨q, cap, cur, ha, hb, hrest⟩
      · exact .inl p2
      · exact .inr ⟨q, cap, cur, ha, by omega, hrest⟩
end Go.Proofs.YtklohbglkbhjhaaDoor

/- The walks of change's small ones: asks, cut, wider. -/




namespace Go.Proofs.YtklohbglkbhjhaaDoor
open Go.RowKit
set_option linter.unusedVariables false

def asksK (k : Int) : Bool := decide (k = 2 ∨ k = 4 ∨ k = 5)
theorem asks_any (k : Int) (w : World) : Calls Tryd.prog 68 #[.int .i64 k] w fun e w' => e = .returned (.bool (asksK k)) ∧ w = w' := by
  go_enter Tryd.func68, Tryd.ntmps68
  go_wp2_with fail
  all_goals go_ret
  all_goals exact ⟨ret_bool (by unfold asksK; rw [Bool.eq_iff_iff]; simp [*]), rfl⟩
/-- A number's wider type. -/
def wideT (t : Int) : Int := if t = 3 then 1 else if t = 1 then 2 else t

set_option maxRecDepth 100000 in
theorem wider_any (t i : Int) (s : ByteArray) (w : World) : Calls Tryd.prog 73 #[.agg #[.int .i64 t, .int .i64 i, .string s]] w fun e w' => e = .returned (.agg #[.int .i64 (wideT t), .int .i64 i, .string s]) ∧ Later w w' := by
  have HL := Lib.hid (fun (o o' : Obj) => (Later.new w o).alloc o')
  by_cases h3 : t = 3
  · subst h3
    go_enter Tryd.func73, Tryd.ntmps73
    go_wp2_with fail
    exact bodyPost_ret (v := .agg #[.int .i64 1, .int .i64 i, .string s]) (by simp [results, Tryd.results73, go_sem]) rfl ⟨rfl, HL.out _ _⟩
  · by_cases h1 : t = 1
    · subst h1
      go_enter Tryd.func73, Tryd.ntmps73
      go_wp2_with fail
      exact bodyPost_ret (v := .agg #[.int .i64 2, .int .i64 i, .string s]) (by simp [results, Tryd.results73, go_sem]) rfl ⟨rfl, HL.out _ _⟩
    · have HW := Lib.hid (show wideT t = t from by unfold wideT; rw [if_neg h3, if_neg h1])
      have e3 : (t == 3) = false := by simp [h3]
      have e1 : (t == 1) = false := by simp [h1]
      clear h3 h1
      go_enter Tryd.func73, Tryd.ntmps73
      go_wp2_with fail
      rw [HW.out]
      exact bodyPost_ret (v := .agg #[.int .i64 t, .int .i64 i, .string s]) (by simp [results, Tryd.results73, go_sem]) rfl ⟨rfl, HL.out _ _⟩
/-- What is ahead of the first separator, and behind it. -/
def cutV (x : Val3) (c : Nat) : Val3 × Val3 :=
  if x.1 = 4 ∧ 0 ≤ Lib.indexByte x.2.2.data.toList c.toUInt8 then ((4, 0, x.2.2.extract 0 (Lib.indexByte x.2.2.data.toList c.toUInt8).toNat), (4, 0, x.2.2.extract ((Lib.indexByte x.2.2.data.toList c.toUInt8).toNat + 1) x.2.2.size)) else (x, (0, 0, ⟨#[]⟩))
def CutP (p : Val3 × Val3) (w : World) (e : Ending) (w' : World) : Prop :=
  e = .returned (.tuple #[.agg #[.int .i64 p.1.1, .int .i64 p.1.2.1, .string p.1.2.2], .agg #[.int .i64 p.2.1, .int .i64 p.2.2.1, .string p.2.2.2]]) ∧ Later w w'

set_option maxRecDepth 100000 in
set_option maxHeartbeats 1000000 in
theorem cut_any (t i : Int) (s : ByteArray) (c : Nat) (w : World) (hc : c < 256) (hs : s.size ≤ 1000) : Calls Tryd.prog 71 #[.agg #[.int .i64 t, .int .i64 i, .string s], .int .u8 c] w (CutP (cutV (t, i, s) c) w) := by
  have HL := Lib.hid (fun (o o' o2 : Obj) => ((Later.new w o).alloc o').alloc o2)
  have HI := Lib.hid (fun W => Tryd.strings_IndexByte s (c : Int) W)
  have hcc : (c : Int).toNat = c := by omega
  rw [hcc] at HI
  have hge := Lib.indexByte_ge s.data.toList c.toUInt8
  obtain ⟨z, hz⟩ : ∃ z, Lib.indexByte s.data.toList c.toUInt8 = z := ⟨_, rfl⟩
  have HLT := Lib.hid (show 0 ≤ z → z < s.size from fun h => by
    have h1 := (Lib.indexByte_some (l := s.data.toList) (c := c.toUInt8) (o := z.toNat) (by rw [hz]; omega)).1
    have h2 := (List.getElem?_eq_some_iff.1 h1).1
    rw [Array.length_toList] at h2
    have h3 : s.data.size = s.size := rfl
    omega)
  have HZ := Lib.hid hz
  rw [hz] at HI hge
  clear hz hcc
  by_cases h4 : t = 4
  · by_cases h0 : z < 0
    · have HW := Lib.hid (show cutV (t, i, s) c = ((t, i, s), (0, 0, ⟨#[]⟩)) from by unfold cutV; rw [if_neg]; rintro ⟨_, h⟩; dsimp only at h; rw [HZ.out] at h; omega)
      subst h4
      go_enter Tryd.func71, Tryd.ntmps71
      go_wp2_with fail
      refine (HI.out _).mono ?_
      rintro e w' ⟨rfl, rfl⟩
      go_wp2_with fail
      rw [HW.out]
      exact bodyPost_ret (v := .tuple #[.agg #[.int .i64 4, .int .i64 i, .string s], .agg #[.int .i64 0, .int .i64 0, .string ⟨#[]⟩]]) (by simp [results, Tryd.results71, go_sem]) rfl ⟨rfl, HL.out _ _ _⟩
    · have hzn : 0 ≤ z := by omega
      obtain ⟨k, rfl⟩ := Int.eq_ofNat_of_zero_le hzn
      have hk : k < s.size := by have := HLT.out hzn; omega
      have HW := Lib.hid (show cutV (t, i, s) c = ((4, 0, s.extract 0 k), (4, 0, s.extract (k + 1) s.size)) from by
        unfold cutV; rw [if_pos ⟨h4, by dsimp only; rw [HZ.out]; exact hzn⟩, HZ.out]; rfl)
      subst h4
      have hwk : IntKind.i64.wrap ((k : Int) + 1) = (k : Int) + 1 := IntWalk.i64_in _ ⟨by omega, by omega⟩
      clear hzn h0 hge HLT HZ
      go_enter Tryd.func71, Tryd.ntmps71
      go_wp2_with fail
      refine (HI.out _).mono ?_
      rintro e w' ⟨rfl, rfl⟩
      go_wp2_with fail
      have hk1 : k ≤ s.size := by omega
      have hk2 : 0 ≤ (k : Int) + 1 ∧ (k : Int) + 1 ≤ (s.size : Int) := by omega
      obtain ⟨h0, hh0⟩ : ∃ x, w.heap.size = x := ⟨_, rfl⟩
      obtain ⟨W, hW⟩ : ∃ x : World, ((w.alloc (.cells #[.int .i64 4, .int .i64 i, .string s] 29)).alloc (.cells #[.int .i64 0, .int .i64 0, .string ⟨#[]⟩] 29)).alloc (.cells #[.int .i64 0, .int .i64 0, .string ⟨#[]⟩] 29) = x := ⟨_, rfl⟩
      have b0 : Blk W h0 #[.int .i64 4, .int .i64 i, .string s] 29 := hW ▸ ((Blk.new w _ _ _ hh0.symm).later (Later.new _ _)).later (Later.new _ _)
      have b1 : Blk W (h0 + 1) #[.int .i64 0, .int .i64 0, .string ⟨#[]⟩] 29 := hW ▸ (Blk.new _ _ _ _ (by simp; omega)).later (Later.new _ _)
      have b2 : Blk W (h0 + 2) #[.int .i64 0, .int .i64 0, .string ⟨#[]⟩] 29 := hW ▸ Blk.new _ _ _ _ (by simp; omega)
      have HLW := Lib.hid (show Later w W from hW ▸ HL.out _ _ _)
      rw [hh0, hW, show h0 + 1 + 1 = h0 + 2 from rfl]
      refine wp_region_K (S := fun W : World => W.cell? ⟨h0, 2, none⟩ = some (.string s)) (R := fun a b => a = b) (fun _ => rfl) (by kernel_rfl) ?_
      obtain ⟨wd, hwd⟩ : ∃ x, W.drew = x := ⟨_, rfl⟩
      have ld : Later W wd := hwd ▸ (Later.refl W).drew
      rw [hwd]
      have hS : (fun W : World => W.cell? ⟨h0, 2, none⟩ = some (.string s)) wd := (b0.later ld).cell 2 _ rfl
      have c1 := b1.later ld
      have c2 := b2.later ld
      have HLD := Lib.hid (HLW.out.trans ld)
      have x0 := c1.cell 0 _ rfl
      have x1 := c1.cell 1 _ rfl
      have x2 := c1.cell 2 _ rfl
      have f0 := c1.frozen 0
      have f1 := c1.frozen 1
      have f2 := c1.frozen 2
      have C1 := Lib.hid (three_blk c1 rfl (.int .i64 4) (.int .i64 0) (.string (s.extract 0 k)))
      have hb9 : Below (h0 + 1) wd (((wd.setCell ⟨h0 + 1, 0, none⟩ (.int .i64 4)).setCell ⟨h0 + 1, 1, none⟩ (.int .i64 0)).setCell ⟨h0 + 1, 2, none⟩ (.string (s.extract 0 k))) := (((Below.refl _ _).setCell (p := ⟨h0 + 1, 0, none⟩) (Nat.le_refl _) _).setCell (p := ⟨h0 + 1, 1, none⟩) (Nat.le_refl _) _).setCell (p := ⟨h0 + 1, 2, none⟩) (Nat.le_refl _) _
      have HB9 := Lib.hid hb9
      have C2 := Lib.hid (show Blk (((wd.setCell ⟨h0 + 1, 0, none⟩ (.int .i64 4)).setCell ⟨h0 + 1, 1, none⟩ (.int .i64 0)).setCell ⟨h0 + 1, 2, none⟩ (.string (s.extract 0 k))) (h0 + 2) #[.int .i64 0, .int .i64 0, .string ⟨#[]⟩] 29 from
        ((c2.far (p := ⟨h0 + 1, 0, none⟩) (by show h0 + 2 ≠ h0 + 1; omega) _).far (p := ⟨h0 + 1, 1, none⟩) (by show h0 + 2 ≠ h0 + 1; omega) _).far (p := ⟨h0 + 1, 2, none⟩) (by show h0 + 2 ≠ h0 + 1; omega) _)
      clear hwd ld hW b0 b1 b2 c1 c2 hb9
      refine wpAnyK_take (fun _ => rfl) (fun _ _ _ h k => h.trans k) (fun _ _ h k => k ▸ h) (i := 0) (oi := { dst := some 20, op := _, type := _, pos := _, after := _, guard := _ }) (v := ?_) rfl (by kernel_rfl) (by kernel_rfl) (by kernel_rfl) (fun _ _ _ h => h) (Or.inl (Or.inl ⟨by rfl, ?_⟩)) hS ?_
      rotate_left
      focus ((intro w hSw; (try dsimp only at hSw); skip; go_simp); (try with_reducible rfl))
      intro wq hwq
      subst hwq
      (try simp only [Act.put, List.setIfInBounds_toArray, List.set_cons_zero, List.set_cons_succ])
      refine wpAnyK_take (fun _ => rfl) (fun _ _ _ h k => h.trans k) (fun _ _ h k => k ▸ h) (i := 1) (oi := { dst := some 21, op := _, type := _, pos := _, after := _, guard := _ }) (v := ?_) rfl (by kernel_rfl) (by kernel_rfl) (by kernel_rfl) (fun _ _ _ h => h) (Or.inl (Or.inl ⟨by rfl, ?_⟩)) hS ?_
      rotate_left
      focus ((intro w hSw; (try dsimp only at hSw); skip; go_simp); (try with_reducible rfl))
      intro wq hwq
      subst hwq
      (try simp only [Act.put, List.setIfInBounds_toArray, List.set_cons_zero, List.set_cons_succ])
      refine wpAnyK_take (fun _ => rfl) (fun _ _ _ h k => h.trans k) (fun _ _ h k => k ▸ h) (i := 2) (oi := { dst := some 22, op := _, type := _, pos := _, after := _, guard := _ }) (v := ?_) rfl (by kernel_rfl) (by kernel_rfl) (by kernel_rfl) (fun _ _ _ h => h) (Or.inl (Or.inl ⟨by rfl, ?_⟩)) hS ?_
      rotate_left
      focus ((intro w hSw; (try dsimp only at hSw); skip; go_simp); (try with_reducible rfl))
      intro wq hwq
      subst hwq
      (try simp only [Act.put, List.setIfInBounds_toArray, List.set_cons_zero, List.set_cons_succ])
      refine wpAnyK_take (fun _ => rfl) (fun _ _ _ h k => h.trans k) (fun _ _ h k => k ▸ h) (i := 3) (oi := { dst := some 23, op := _, type := _, pos := _, after := _, guard := _ }) (v := ?_) rfl (by kernel_rfl) (by kernel_rfl) (by kernel_rfl) (fun _ _ _ h => h) (Or.inl (Or.inl ⟨by rfl, ?_⟩)) hS ?_
      rotate_left
      focus ((intro w hSw; (try dsimp only at hSw); skip; go_simp; (try rw [if_pos hk1]); (try rw [if_pos hk2])); (try with_reducible rfl))
      intro wq hwq
      subst hwq
      (try simp only [Act.put, List.setIfInBounds_toArray, List.set_cons_zero, List.set_cons_succ])
      refine wpAnyK_take (fun _ => rfl) (fun _ _ _ h k => h.trans k) (fun _ _ h k => k ▸ h) (i := 4) (oi := { dst := some 24, op := _, type := _, pos := _, after := _, guard := _ }) (v := ?_) rfl (by kernel_rfl) (by kernel_rfl) (by kernel_rfl) (fun _ _ _ h => h) (Or.inl (Or.inl ⟨by rfl, ?_⟩)) hS ?_
      rotate_left
      focus ((intro w hSw; (try dsimp only at hSw); skip; go_simp); (try with_reducible rfl))
      intro wq hwq
      subst hwq
      (try simp only [Act.put, List.setIfInBounds_toArray, List.set_cons_zero, List.set_cons_succ])
      refine wpAnyK_take (fun _ => rfl) (fun _ _ _ h k => h.trans k) (fun _ _ h k => k ▸ h) (i := 5) (oi := { dst := some 25, op := _, type := _, pos := _, after := _, guard := _ }) (v := ?_) rfl (by kernel_rfl) (by kernel_rfl) (by kernel_rfl) (fun _ _ _ h => h) (Or.inl (Or.inl ⟨by rfl, ?_⟩)) hS ?_
      rotate_left
      focus ((intro w hSw; (try dsimp only at hSw); skip; go_simp); (try with_reducible rfl))
      intro wq hwq
      subst hwq
      (try simp only [Act.put, List.setIfInBounds_toArray, List.set_cons_zero, List.set_cons_succ])
      refine wpAnyK_take (fun _ => rfl) (fun _ _ _ h k => h.trans k) (fun _ _ h k => k ▸ h) (i := 6) (oi := { dst := some 26, op := _, type := _, pos := _, after := _, guard := _ }) (v := ?_) rfl (by kernel_rfl) (by kernel_rfl) (by kernel_rfl) (fun _ _ _ h => h) (Or.inl (Or.inl ⟨by rfl, ?_⟩)) hS ?_
      rotate_left
      focus ((intro w hSw; (try dsimp only at hSw); skip; go_simp); (try with_reducible rfl))
      intro wq hwq
      subst hwq
      (try simp only [Act.put, List.setIfInBounds_toArray, List.set_cons_zero, List.set_cons_succ])
      refine wpAnyK_take (fun _ => rfl) (fun _ _ _ h k => h.trans k) (fun _ _ h k => k ▸ h) (i := 7) (oi := { dst := some 27, op := _, type := _, pos := _, after := _, guard := _ }) (v := ?_) rfl (by kernel_rfl) (by kernel_rfl) (by kernel_rfl) (fun _ _ _ h => h) (Or.inl (Or.inl ⟨by rfl, ?_⟩)) hS ?_
      rotate_left
      focus ((intro w hSw; (try dsimp only at hSw); skip; go_simp); (try with_reducible rfl))
      intro wq hwq
      subst hwq
      (try simp only [Act.put, List.setIfInBounds_toArray, List.set_cons_zero, List.set_cons_succ])
      refine wpAnyK_take (fun _ => rfl) (fun _ _ _ h k => h.trans k) (fun _ _ h k => k ▸ h) (i := 8) (oi := { dst := some 28, op := _, type := _, pos := _, after := _, guard := _ }) (v := ?_) rfl (by kernel_rfl) (by kernel_rfl) (by kernel_rfl) (fun _ _ _ h => h) (Or.inl (Or.inl ⟨by rfl, ?_⟩)) hS ?_
      rotate_left
      focus ((intro w hSw; (try dsimp only at hSw); skip; go_simp); (try with_reducible rfl))
      intro wq hwq
      subst hwq
      (try simp only [Act.put, List.setIfInBounds_toArray, List.set_cons_zero, List.set_cons_succ])
      refine wpAnyK_take (fun _ => rfl) (fun _ _ _ h k => h.trans k) (fun _ _ h k => k ▸ h) (i := 9) (oi := { dst := some 29, op := _, type := _, pos := _, after := _, guard := _ }) (v := ?_) rfl (by kernel_rfl) (by kernel_rfl) (by kernel_rfl) (fun _ _ _ h => h) (Or.inl (Or.inl ⟨by rfl, ?_⟩)) hS ?_
      rotate_left
      focus ((intro w hSw; (try dsimp only at hSw); skip; go_simp; (try rw [if_pos hk1]); (try rw [if_pos hk2])); (try with_reducible rfl))
      intro wq hwq
      subst hwq
      (try simp only [Act.put, List.setIfInBounds_toArray, List.set_cons_zero, List.set_cons_succ])
      refine wpAnyK_take (fun _ => rfl) (fun _ _ _ h k => h.trans k) (fun _ _ h k => k ▸ h) (i := 10) (oi := { dst := some 30, op := _, type := _, pos := _, after := _, guard := _ }) (v := ?_) rfl (by kernel_rfl) (by kernel_rfl) (by kernel_rfl) (fun _ _ _ h => h) (Or.inl (Or.inl ⟨by rfl, ?_⟩)) hS ?_
      rotate_left
      focus ((intro w hSw; (try dsimp only at hSw); skip; go_simp); (try with_reducible rfl))
      intro wq hwq
      subst hwq
      (try simp only [Act.put, List.setIfInBounds_toArray, List.set_cons_zero, List.set_cons_succ])
      refine wpAnyK_all (rs := [11]) (by kernel_rfl) (by simp) (fun i hi => ?_)
      simp only [List.mem_cons, List.not_mem_nil, or_false] at hi
      subst hi
      refine stepK (o := { dst := none, op := _, type := _, pos := _, after := _, guard := _ }) rfl (fun K hK => ?_)
      go_simp
      obtain ⟨w9, hw9⟩ : ∃ x : World, (((wd.setCell ⟨h0 + 1, 0, none⟩ (.int .i64 4)).setCell ⟨h0 + 1, 1, none⟩ (.int .i64 0)).setCell ⟨h0 + 1, 2, none⟩ (.string (s.extract 0 k))) = x := ⟨_, rfl⟩
      rw [hw9] at C1 HB9 C2 ⊢
      replace hS : (fun W : World => W.cell? ⟨h0, 2, none⟩ = some (.string s)) w9 := (HB9.out.cell (p := ⟨h0, 2, none⟩) (Nat.lt_succ_self _)).trans hS
      refine hK _ _ hS fun wq hwq => ?_
      subst hwq
      clear hK hw9 x0 x1 x2 f0 f1 f2
      (try simp only [Act.put, List.setIfInBounds_toArray, List.set_cons_zero, List.set_cons_succ])
      refine wpAnyK_all (rs := [12]) (by kernel_rfl) (by simp) (fun i hi => ?_)
      simp only [List.mem_cons, List.not_mem_nil, or_false] at hi
      subst hi
      refine stepK (o := { dst := none, op := _, type := _, pos := _, after := _, guard := _ }) rfl (fun K hK => ?_)
      have c2 := C2.out
      have x0 := c2.cell 0 _ rfl
      have x1 := c2.cell 1 _ rfl
      have x2 := c2.cell 2 _ rfl
      have f0 := c2.frozen 0
      have f1 := c2.frozen 1
      have f2 := c2.frozen 2
      have C3 := Lib.hid (three_blk c2 rfl (.int .i64 4) (.int .i64 0) (.string (s.extract (k + 1) s.size)))
      have C4 := Lib.hid (show Blk (((w9.setCell ⟨h0 + 2, 0, none⟩ (.int .i64 4)).setCell ⟨h0 + 2, 1, none⟩ (.int .i64 0)).setCell ⟨h0 + 2, 2, none⟩ (.string (s.extract (k + 1) s.size))) (h0 + 1) #[.int .i64 4, .int .i64 0, .string (s.extract 0 k)] 29 from
        ((C1.out.far (p := ⟨h0 + 2, 0, none⟩) (by show h0 + 1 ≠ h0 + 2; omega) _).far (p := ⟨h0 + 2, 1, none⟩) (by show h0 + 1 ≠ h0 + 2; omega) _).far (p := ⟨h0 + 2, 2, none⟩) (by show h0 + 1 ≠ h0 + 2; omega) _)
      have HLZ := Lib.hid (show Later w (((w9.setCell ⟨h0 + 2, 0, none⟩ (.int .i64 4)).setCell ⟨h0 + 2, 1, none⟩ (.int .i64 0)).setCell ⟨h0 + 2, 2, none⟩ (.string (s.extract (k + 1) s.size))) from
        three_later (Later.of (HLD.out.below.trans (HB9.out.mono (by omega)))) (by omega) _ _ _)
      clear c2 C2 C1 HB9 HLD
      go_simp
      obtain ⟨wz, hwz⟩ : ∃ x : World, (((w9.setCell ⟨h0 + 2, 0, none⟩ (.int .i64 4)).setCell ⟨h0 + 2, 1, none⟩ (.int .i64 0)).setCell ⟨h0 + 2, 2, none⟩ (.string (s.extract (k + 1) s.size))) = x := ⟨_, rfl⟩
      have hb3 : Below (h0 + 1) w9 (((w9.setCell ⟨h0 + 2, 0, none⟩ (.int .i64 4)).setCell ⟨h0 + 2, 1, none⟩ (.int .i64 0)).setCell ⟨h0 + 2, 2, none⟩ (.string (s.extract (k + 1) s.size))) := (((Below.refl _ _).setCell (p := ⟨h0 + 2, 0, none⟩) (by show h0 + 1 ≤ h0 + 2; omega) _).setCell (p := ⟨h0 + 2, 1, none⟩) (by show h0 + 1 ≤ h0 + 2; omega) _).setCell (p := ⟨h0 + 2, 2, none⟩) (by show h0 + 1 ≤ h0 + 2; omega) _
      rw [hwz] at C3 C4 HLZ hb3 ⊢
      replace hS : (fun W : World => W.cell? ⟨h0, 2, none⟩ = some (.string s)) wz := (hb3.cell (p := ⟨h0, 2, none⟩) (Nat.lt_succ_self _)).trans hS
      refine hK _ _ hS fun wq hwq => ?_
      subst hwq
      clear hK hwz hb3 x0 x1 x2 f0 f1 f2
      (try simp only [Act.put, List.setIfInBounds_toArray, List.set_cons_zero, List.set_cons_succ])
      refine wpAnyK_done (by kernel_rfl) ?_ _
      clear hS
      go_wp2_with fail
      have x0 := C4.out.cell 0 _ rfl
      have x1 := C4.out.cell 1 _ rfl
      have x2 := C4.out.cell 2 _ rfl
      have y0 := C3.out.cell 0 _ rfl
      have y1 := C3.out.cell 1 _ rfl
      have y2 := C3.out.cell 2 _ rfl
      rw [HW.out]
      exact bodyPost_ret (v := .tuple #[.agg #[.int .i64 4, .int .i64 0, .string (s.extract 0 k)], .agg #[.int .i64 4, .int .i64 0, .string (s.extract (k + 1) s.size)]]) (by simp [results, Tryd.results71, go_sem, x0, x1, x2, y0, y1, y2]) rfl ⟨rfl, HLZ.out⟩
  · have HW := Lib.hid (show cutV (t, i, s) c = ((t, i, s), (0, 0, ⟨#[]⟩)) from by unfold cutV; rw [if_neg]; rintro ⟨h, _⟩; exact h4 h)
    have e4 : (t != 4) = true := by simp [h4]
    clear h4
    go_enter Tryd.func71, Tryd.ntmps71
    go_wp2_with fail
    refine (HI.out _).mono ?_
    rintro e w' ⟨rfl, rfl⟩
    go_wp2_with fail
    rw [HW.out]
    exact bodyPost_ret (v := .tuple #[.agg #[.int .i64 t, .int .i64 i, .string s], .agg #[.int .i64 0, .int .i64 0, .string ⟨#[]⟩]]) (by simp [results, Tryd.results71, go_sem]) rfl ⟨rfl, HL.out _ _ _⟩
end Go.Proofs.YtklohbglkbhjhaaDoor
