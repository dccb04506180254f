/- What Apply gives, in one form: for regions that hold a call of it. -/
import Derived.Test.YtklohbglkbhjhaaDoorSch0
import Derived.Test.YtklohbglkbhjhaaDoorKripke
namespace Go.Proofs.YtklohbglkbhjhaaDoor
open Go.RowKit
set_option linter.unusedVariables false

def ApV (B : Nat) (s : St3) (c : Chg) (w' : World) (A : Option Addr) (n cp : Nat) (last sb pb parts : Int) (E : Option Addr) (en ec : Nat) (ev : Int) : Prop :=
  (∃ k, applyM s c = .error k ∧ k ∈ [(1 : Int), 3, 4, 6, 9] ∧ ev = k ∧ A = none ∧ n = 0 ∧ cp = 0 ∧ last = 0 ∧ sb = 0 ∧ pb = 0 ∧ parts = 0 ∧ E = none ∧ en = 0 ∧ ec = 0) ∨
  (∃ s' gv ge, applyM s c = .ok s' ∧ ev = 0 ∧ A = some ⟨gv, 0, none⟩ ∧ n = s'.1.length ∧ last = s'.2.1 ∧ sb = s'.2.2.sb ∧ pb = s'.2.2.pb ∧ parts = s'.2.2.parts ∧ E = some ⟨ge, 0, none⟩ ∧ en = s'.2.2.enc.length ∧
    w'.ownsRow B 59 3 (.slice A n cp) n (fc s'.1) ∧ w'.ownsRow B 3 1 (.slice E en ec) en (ein s'.2.2.enc) ∧ gv ≠ ge ∧ en = n ∧ (1 ≤ n ∧ n ≤ 6) ∧ 1 ≤ last ∧ last ≤ 10000)
theorem ApV.later {B : Nat} {s : St3} {c : Chg} {w w' : World} {A : Option Addr} {n cp : Nat} {last sb pb parts : Int} {E : Option Addr} {en ec : Nat} {ev : Int} (h : ApV B s c w A n cp last sb pb parts E en ec ev) (l : Later w w') : ApV B s c w' A n cp last sb pb parts E en ec ev := by
  rcases h with h | ⟨s', gv, ge, h1, h2, h3, h4, h5, h6, h7, h8, h9, h10, o1, o2, h11⟩
  · exact .inl h
  · exact .inr ⟨s', gv, ge, h1, h2, h3, h4, h5, h6, h7, h8, h9, h10, own_later o1 l, own_later o2 l, h11⟩
theorem ApV.fill {B : Nat} {s : St3} {c : Chg} {w : World} {A : Option Addr} {n cp : Nat} {last sb pb parts : Int} {E : Option Addr} {en ec : Nat} {ev : Int} (h : ApV B s c w A n cp last sb pb parts E en ec ev) {g : Nat} {cs : Array Value} {t : TypeId} (hb : Blk w g cs t) (t1 : 59 ≠ t) (t2 : 3 ≠ t) (o : Nat) (vs : List Value) : ApV B s c (w.setCells g o vs) A n cp last sb pb parts E en ec ev := by
  rcases h with h | ⟨s', gv, ge, h1, h2, h3, h4, h5, h6, h7, h8, h9, h10, o1, o2, h11⟩
  · exact .inl h
  · subst h3 h9
    obtain ⟨c1, hc1⟩ := own_typ o1
    obtain ⟨c2, hc2⟩ := own_typ o2
    have n1 : gv ≠ g := ne_typ hc1 hb t1
    have n2 : ge ≠ g := ne_typ hc2 hb t2
    exact .inr ⟨s', gv, ge, h1, h2, rfl, h4, h5, h6, h7, h8, rfl, h10, own_apart o1 (setCells_only _ _) (fun q hq e => by injection hq with hq; injection e with e; exact n1 (hq.trans e)), own_apart o2 (setCells_only _ _) (fun q hq e => by injection hq with hq; injection e with e; exact n2 (hq.trans e)), h11⟩
theorem ApP.v {s : St3} {c : Chg} {w w' : World} {e : Ending} (h : ApP s c w e w') {B : Nat} (hB : B ≤ w.heap.size) : ∃ (A : Option Addr) (n cp : Nat) (last sb pb parts : Int) (E : Option Addr) (en ec : Nat) (ev : Int),
    e = .returned (.tuple #[.agg #[.slice A n cp, .int .i64 last], .agg #[.int .i64 sb, .int .i64 pb, .int .i64 parts, .slice E en ec], .int .i64 ev]) ∧ ApV B s c w' A n cp last sb pb parts E en ec ev ∧ Later w w' := by
  obtain ⟨l, ⟨k, h1, hk, he⟩ | ⟨t, gv, vc, ge, ec, h1, he, ov, oe, hne, hlen, hsm, hls⟩⟩ := h
  · exact ⟨none, 0, 0, 0, 0, 0, 0, none, 0, 0, k, he, .inl ⟨k, h1, hk, rfl, rfl, rfl, rfl, rfl, rfl, rfl, rfl, rfl, rfl, rfl⟩, l⟩
  · exact ⟨_, _, _, _, _, _, _, _, _, _, _, he, .inr ⟨t, gv, ge, h1, rfl, rfl, rfl, rfl, rfl, rfl, rfl, rfl, rfl, own_weak ov hB, own_weak oe hB, hne, hlen, hsm, hls⟩, l⟩
def errOf (o : Except Int St3) : Int := match o with | .error n => n | .ok _ => 0
theorem ApV.err {B : Nat} {s : St3} {c : Chg} {w : World} {A : Option Addr} {n cp : Nat} {last sb pb parts : Int} {E : Option Addr} {en ec : Nat} {ev : Int} (h : ApV B s c w A n cp last sb pb parts E en ec ev) : ev = errOf (applyM s c) := by
  rcases h with ⟨k, h1, _, h2, _⟩ | ⟨s', gv, ge, h1, h2, _⟩
  · rw [h1, h2]; rfl
  · rw [h1, h2]; rfl
theorem Blk.fill {w : World} {g : Nat} {t : TypeId} (zs vs : List Value) (hb : Blk w g zs.toArray t) (hl : vs.length = zs.length) : Blk (w.setCells g 0 vs) g vs.toArray t := by
  have h := Blk.setAll vs 0 zs hb
  rw [setL_eq _ _ _ (by omega), List.take_zero, List.drop_eq_nil_of_le (by omega), List.nil_append, List.append_nil] at h
  exact h
theorem Blk.aside {w : World} {g g' : Nat} {cs : Array Value} {t : TypeId} (hb : Blk w g cs t) (hne : g ≠ g') (o : Nat) (vs : List Value) : Blk (w.setCells g' o vs) g cs t :=
  ((setCells_only (w := w) vs o).block g hb.lt (fun e => by injection e with e; exact hne e)).trans hb
theorem Later.fill {w w' : World} (l : Later w w') {g : Nat} (hg : w.heap.size ≤ g) (o : Nat) (vs : List Value) : Later w (w'.setCells g o vs) :=
  Later.of (Below.grown l (setCells_only vs o) (Later.size l) (fun q e => by injection e with e; omega))
def zS : List Value := [.slice none 0 0, .int .i64 0]
def zL : List Value := [.int .i64 0, .int .i64 0, .int .i64 0, .slice none 0 0]
/-- What a statement 't, m, e := Apply(..)' leaves. -/
def ResP (s : St3) (c : Chg) (wr : World) (pv qv ev : Value) (wx : World) : Prop :=
  ∃ (g1 g2 : Nat) (A : Option Addr) (n cp : Nat) (last sb pb parts : Int) (E : Option Addr) (en ec : Nat) (e : Int), pv = .pointer (some ⟨g1, 0, none⟩) ∧ qv = .pointer (some ⟨g2, 0, none⟩) ∧ ev = .int .i64 e ∧ ApV wr.heap.size s c wx A n cp last sb pb parts E en ec e ∧
    Blk wx g1 #[.slice A n cp, .int .i64 last] 24 ∧ Blk wx g2 #[.int .i64 sb, .int .i64 pb, .int .i64 parts, .slice E en ec] 27 ∧ g1 ≠ g2 ∧ wr.heap.size ≤ g1 ∧ wr.heap.size ≤ g2 ∧ Later wr wx
end Go.Proofs.YtklohbglkbhjhaaDoor
