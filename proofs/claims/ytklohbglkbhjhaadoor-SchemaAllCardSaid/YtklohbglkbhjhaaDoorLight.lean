/- Light; what Apply gives, in one form; the document's and the program's. -/
import Derived.Test.YtklohbglkbhjhaaDoorRApply
import Derived.Test.YtklohbglkbhjhaaDoorRefFR
import Derived.Test.YtklohbglkbhjhaaDoorSameS
import Derived.Test.YtklohbglkbhjhaaDoorStayM
import Derived.Test.YtklohbglkbhjhaaDoorPlayC
namespace Go.Proofs.YtklohbglkbhjhaaDoor
open Go.RowKit
set_option linter.unusedVariables false

def LightP (l : List Col3) (en : Nat) : Prop := (∀ x ∈ l, x.2.1.size ≤ 30) ∧ l.length ≤ 9 ∧ en ≤ 9
set_option maxRecDepth 100000 in
set_option maxHeartbeats 4000000 in
theorem light_any (A E : Option Addr) (n c en ec : Nat) (last sb pb parts : Int) (l : List Col3) (w : World) (hn : n = l.length) (hl : n ≤ maxLen) (hr : Has w A (fc l)) :
    Calls Tryd.prog 10 #[.agg #[.slice A n c, .int .i64 last], .agg #[.int .i64 sb, .int .i64 pb, .int .i64 parts, .slice E en ec]] w (TellsP (LightP l en) w) := by
  obtain ⟨q, hq⟩ : ∃ x, w.heap.size = x := ⟨_, rfl⟩
  obtain ⟨w1, hw1⟩ : ∃ x : World, (w.alloc (.cells #[.slice A n c, .int .i64 last] 24)).alloc (.cells #[.int .i64 sb, .int .i64 pb, .int .i64 parts, .slice E en ec] 27) = x := ⟨_, rfl⟩
  have l1 : Later w w1 := hw1 ▸ (Later.new w _).alloc _
  have HB1 := Lib.hid (show Blk w1 q #[.slice A n c, .int .i64 last] 24 from hw1 ▸ (Blk.new w _ _ _ hq.symm).later (Later.new _ _))
  have HB2 := Lib.hid (show Blk w1 (q + 1) #[.int .i64 sb, .int .i64 pb, .int .i64 parts, .slice E en ec] 27 from hw1 ▸ Blk.new _ _ _ _ (by simp; omega))
  have HL := Lib.hid l1
  have HR := Lib.hid (hr.later l1)
  have HN := Lib.hid hn
  have HW := Lib.hid hw1
  have HQ := Lib.hid hq
  clear l1 hr hn hw1 hq
  have hml : n ≤ 9223372036854775807 := hl
  go_enter Tryd.func10, Tryd.ntmps10
  go_wp2_with fail
  rw [HW.out]
  try simp only [HQ.out]
  clear HW HQ
  go_loopw [5] (fun i wr => ∃ k : Nat, k ≤ n ∧ i = .int .i64 k ∧ (∀ j (h : j < l.length), j < k → l[j].2.1.size ≤ 30) ∧ Later w1 wr) (fun i _ => n - (intOf i).toNat)
  case atStart => exact ⟨0, Nat.zero_le _, rfl, fun j h h2 => absurd h2 (Nat.not_lt_zero _), Later.refl _⟩
  case round =>
    obtain ⟨k, hk, rfl, hall, lat⟩ := hrel
    have HALL := Lib.hid hall
    have HLT := Lib.hid lat
    have e0 := (HB1.out.later lat).cell 0 _ rfl
    have d3 := (HB2.out.later lat).cell 3 _ rfl
    clear hall lat
    by_cases hlt : k < n
    · have hkl : k < l.length := by have := HN.out; omega
      obtain ⟨b, off, rfl, c0, c1, _⟩ := (HR.out.later HLT.out).col3 k hkl
      have HY := Lib.hid (fun (h : l[k].2.1.size ≤ 30) => show ∀ j (h : j < l.length), j < k + 1 → l[j].2.1.size ≤ 30 from fun j h1 h2 => by
        rcases Nat.lt_or_ge j k with h3 | h3
        · exact HALL.out j h1 h3
        · obtain rfl : j = k := by omega
          exact h)
      have HNO := Lib.hid (fun (h : ¬ l[k].2.1.size ≤ 30) => show ¬ LightP l en from fun hf => h (hf.1 _ (List.getElem_mem hkl)))
      generalize l[k].2.1 = nm at c1 HY HNO
      have hkn : (k : Int) < (n : Int) := by omega
      by_cases h1 : (30 : Int) < (nm.size : Int)
      · have HX := Lib.hid (HNO.out (by omega))
        go_wp2_with fail
        go_ret
        exact TellsP.f HX.out (HL.out.trans HLT.out)
      · have HX := Lib.hid (HY.out (by omega))
        go_wp2_with fail
        go_roundw
        case rel => exact ⟨k + 1, hlt, by go_num, HX.out, HLT.out⟩
        case measure => simp [intOf]; omega
    · have hkn : ¬ (k : Int) < (n : Int) := by omega
      have HALL2 := Lib.hid (show ∀ x ∈ l, x.2.1.size ≤ 30 from fun x hx => by
        obtain ⟨j, hj, rfl⟩ := List.getElem_of_mem hx
        exact HALL.out j hj (by have := HN.out; omega))
      by_cases h1 : (n : Int) ≤ 9
      rotate_left
      · have HX := Lib.hid (show ¬ LightP l en from fun h => by have := h.2.1; have := HN.out; omega)
        go_wp2_with fail
        go_ret
        exact TellsP.f HX.out (HL.out.trans HLT.out)
      by_cases h2 : (en : Int) ≤ 9
      rotate_left
      · have HX := Lib.hid (show ¬ LightP l en from fun h => by have := h.2.2; omega)
        go_wp2_with fail
        go_ret
        exact TellsP.f HX.out (HL.out.trans HLT.out)
      have HX := Lib.hid (show LightP l en from ⟨HALL2.out, by have := HN.out; omega, by omega⟩)
      go_wp2_with fail
      go_ret
      exact TellsP.t HX.out (HL.out.trans HLT.out)
/-- What a change leaves: what comes, or nothing. -/
def outS (o : Except Int St3) : St3 := match o with | .ok s => s | .error _ => ([], 0, ⟨0, 0, 0, []⟩)
theorem out_small {s : St3} {c : Chg} : (outS (applyM s c)).1.length ≤ 6 ∧ (outS (applyM s c)).2.2.enc.length ≤ 6 := by
  rcases h : applyM s c with n | t
  · exact ⟨Nat.zero_le _, Nat.zero_le _⟩
  · unfold applyM at h
    by_cases hm : MayS s.1 s.2.1 ∧ MayLy s.1 s.2.2
    · rw [if_pos hm] at h
      have hk := keep_any (mayS_iff.1 hm.1) (mayLy_iff.1 hm.2) h
      exact ⟨hk.may.len.2, by show t.2.2.enc.length ≤ 6; rw [hk.lay.len]; exact hk.may.len.2⟩
    · rw [if_neg hm] at h; cases h
theorem ApV.out {B : Nat} {s : St3} {c : Chg} {w : World} {A : Option Addr} {n cp : Nat} {last sb pb parts : Int} {E : Option Addr} {en ec : Nat} {ev : Int} (h : ApV B s c w A n cp last sb pb parts E en ec ev) :
    n = (outS (applyM s c)).1.length ∧ last = (outS (applyM s c)).2.1 ∧ sb = (outS (applyM s c)).2.2.sb ∧ pb = (outS (applyM s c)).2.2.pb ∧ parts = (outS (applyM s c)).2.2.parts ∧ en = (outS (applyM s c)).2.2.enc.length ∧ ev = errOf (applyM s c) ∧ Has w A (fc (outS (applyM s c)).1) ∧ Has w E (ein (outS (applyM s c)).2.2.enc) := by
  rcases h with ⟨k, h1, _, h2, hA, hn, hc, hl, hs, hp, hq, hE, he, hec⟩ | ⟨s', gv, ge, h1, h2, h3, h4, h5, h6, h7, h8, h9, h10, o1, o2, _⟩
  · rw [h1]
    subst h2 hA hn hc hl hs hp hq hE he hec
    exact ⟨rfl, rfl, rfl, rfl, rfl, rfl, rfl, .inl rfl, .inl rfl⟩
  · rw [h1]
    subst h2 h3 h4 h5 h6 h7 h8 h9 h10
    exact ⟨rfl, rfl, rfl, rfl, rfl, rfl, rfl, Has.ownG o1, Has.ownG o2⟩
theorem RApP.v {s : St3} {c : Chg} {w w' : World} {e : Ending} (h : RApP s c w e w') {B : Nat} (hB : B ≤ w.heap.size) : ∃ (A : Option Addr) (n cp : Nat) (last sb pb parts : Int) (E : Option Addr) (en ec : Nat) (ev : Int),
    e = .returned (.tuple #[.agg #[.slice A n cp, .int .i64 last], .agg #[.int .i64 sb, .int .i64 pb, .int .i64 parts, .slice E en ec], .int .i64 ev]) ∧ ApV B s c w' A n cp last sb pb parts E en ec ev ∧ Later w w' := by
  obtain ⟨l, ⟨k, h1, hk, he⟩ | ⟨t, gv, vc, ge, ec, h1, he, ov, oe⟩⟩ := h
  · exact ⟨none, 0, 0, 0, 0, 0, 0, none, 0, 0, k, he, .inl ⟨k, h1, hk, rfl, rfl, rfl, rfl, rfl, rfl, rfl, rfl, rfl, rfl, rfl⟩, l⟩
  · have h2 := h1
    unfold applyM at h2
    by_cases hm : MayS s.1 s.2.1 ∧ MayLy s.1 s.2.2
    · rw [if_pos hm] at h2
      have hk := keep_any (mayS_iff.1 hm.1) (mayLy_iff.1 hm.2) h2
      have hne : gv ≠ ge := by
        obtain ⟨c1, hc1⟩ := own_typ ov
        obtain ⟨c2, hc2⟩ := own_typ oe
        exact ne_typ hc1 hc2 (by decide)
      have hpos : 1 ≤ t.2.1 := by
        have h0 : 0 < t.1.length := by have := hk.may.len; omega
        have := (hk.may.col _ (List.getElem_mem h0)).1
        omega
      exact ⟨_, _, _, _, _, _, _, _, _, _, _, he, .inr ⟨t, gv, ge, h1, rfl, rfl, rfl, rfl, rfl, rfl, rfl, rfl, rfl, own_weak ov hB, own_weak oe hB, hne, hk.lay.len, hk.may.len, hpos, hk.may.last⟩, l⟩
    · rw [if_neg hm] at h2; cases h2
/-- What one round reads: a schema, a layout, a change. -/
structure RIn (w : World) (g1 g2 g3 k : Nat) (V : Option Addr) (vc : Nat) (E : Option Addr) (ec : Nat) (s : St3) (c : Chg) : Prop where
  a0 : w.cell? ⟨g1, k * 2, none⟩ = some (.slice V s.1.length vc)
  a1 : w.cell? ⟨g1, k * 2 + 1, none⟩ = some (.int .i64 s.2.1)
  b0 : w.cell? ⟨g2, k * 4, none⟩ = some (.int .i64 s.2.2.sb)
  b1 : w.cell? ⟨g2, k * 4 + 1, none⟩ = some (.int .i64 s.2.2.pb)
  b2 : w.cell? ⟨g2, k * 4 + 2, none⟩ = some (.int .i64 s.2.2.parts)
  b3 : w.cell? ⟨g2, k * 4 + 3, none⟩ = some (.slice E s.2.2.enc.length ec)
  c0 : w.cell? ⟨g3, k * 9, none⟩ = some (.int .i64 c.kind)
  c1 : w.cell? ⟨g3, k * 9 + 1, none⟩ = some (.int .i64 c.col)
  c2 : w.cell? ⟨g3, k * 9 + 2, none⟩ = some (.string c.name)
  c3 : w.cell? ⟨g3, k * 9 + 3, none⟩ = some (.int .i64 c.typ)
  c4 : w.cell? ⟨g3, k * 9 + 4, none⟩ = some (.int .i64 c.val.1)
  c5 : w.cell? ⟨g3, k * 9 + 5, none⟩ = some (.int .i64 c.val.2.1)
  c6 : w.cell? ⟨g3, k * 9 + 6, none⟩ = some (.string c.val.2.2)
  c7 : w.cell? ⟨g3, k * 9 + 7, none⟩ = some (.int .u8 c.sep)
  c8 : w.cell? ⟨g3, k * 9 + 8, none⟩ = some (.int .i64 c.num)
  hv : Has w V (fc s.1)
  he : Has w E (ein s.2.2.enc)
  ln : s.1.length ≤ 9 ∧ s.2.2.enc.length ≤ 9
  nm : ∀ x ∈ s.1, x.2.1.size ≤ 9223372036854775807
  cn : c.name.size ≤ 9223372036854775807
  vn : V = none → vc = 0
  en : E = none → ec = 0
theorem RIn.later {w w' : World} {g1 g2 g3 k : Nat} {V : Option Addr} {vc : Nat} {E : Option Addr} {ec : Nat} {s : St3} {c : Chg} (h : RIn w g1 g2 g3 k V vc E ec s c) (l : Later w w') : RIn w' g1 g2 g3 k V vc E ec s c :=
  ⟨l.cell h.a0, l.cell h.a1, l.cell h.b0, l.cell h.b1, l.cell h.b2, l.cell h.b3, l.cell h.c0, l.cell h.c1, l.cell h.c2, l.cell h.c3, l.cell h.c4, l.cell h.c5, l.cell h.c6, l.cell h.c7, l.cell h.c8, h.hv.later l, h.he.later l, h.ln, h.nm, h.cn, h.vn, h.en⟩
end Go.Proofs.YtklohbglkbhjhaaDoor
