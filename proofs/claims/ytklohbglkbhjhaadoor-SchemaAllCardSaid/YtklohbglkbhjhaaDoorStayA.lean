/- SchemaStays: where things lie; Over. -/
import Derived.Test.YtklohbglkbhjhaaDoorSchR
import Derived.Test.YtklohbglkbhjhaaDoorSameS
import Derived.Test.YtklohbglkbhjhaaDoorStayM
import Derived.Test.YtklohbglkbhjhaaDoorPlayC
import Derived.Test.YtklohbglkbhjhaaDoorRefSch
namespace Go.Proofs.YtklohbglkbhjhaaDoor
open Go.RowKit
set_option linter.unusedVariables false

/-- Where the schema, the layout and the picks lie. -/
structure StA (B gs gl gp : Nat) (s : St3) (gv vc ge ec : Nat) (A : Option Addr) (n c : Nat) (wr : World) : Prop where
  bs : Blk wr gs #[.slice (some ⟨gv, 0, none⟩) s.1.length vc, .int .i64 s.2.1] 24
  bl : Blk wr gl #[.int .i64 s.2.2.sb, .int .i64 s.2.2.pb, .int .i64 s.2.2.parts, .slice (some ⟨ge, 0, none⟩) s.2.2.enc.length ec] 27
  ov : wr.ownsRow B 59 3 (.slice (some ⟨gv, 0, none⟩) s.1.length vc) s.1.length (fc s.1)
  oe : wr.ownsRow B 3 1 (.slice (some ⟨ge, 0, none⟩) s.2.2.enc.length ec) s.2.2.enc.length (ein s.2.2.enc)
  pk : ∃ k, k ≤ n ∧ Pk wr gp A n c k
  hb : B ≤ gs ∧ B ≤ gl ∧ B ≤ gp
theorem own_far2 {B : Nat} {e : TypeId} {size n c g gp : Nat} {xs : List Value} {w w' : World} (h : w.ownsRow B e size (.slice (some ⟨g, 0, none⟩) n c) n xs) (f : Far gp w w') (hne : g ≠ gp) : w'.ownsRow B e size (.slice (some ⟨g, 0, none⟩) n c) n xs :=
  own_block h fun q hq => f.2.2 q (own_at h hq).2 (by injection hq with hq; subst hq; exact hne)
theorem far_later {g : Nat} {w w' w'' : World} (l : Later w w') (f : Far g w' w'') (hg : w.heap.size ≤ g) : Later w w'' :=
  show Below w.heap.size w w'' from (Later.below l).trans (f.2.1.mono hg)
theorem HasX.mk4 {w : World} {b off e : Nat} {xs : List Value} (h : Has w (some ⟨b, off, none⟩) xs) (hne : b ≠ e) : HasX (some e) w (some ⟨b, off, none⟩) xs := by
  rcases h with h | ⟨b', off', hA, hb, hc⟩
  · exact .inl h
  · injection hA with hA; injection hA with e1 e2
    subst e1 e2
    exact .inr ⟨b, off, rfl, hb, fun e => by injection e with e; exact hne e, hc⟩
section
variable {B gs gl gp : Nat} {s s' : St3} {gv vc ge ec gv' c4 ge' ec4 : Nat} {A : Option Addr} {n c : Nat} {wr w' : World}
theorem StA.later (h : StA B gs gl gp s gv vc ge ec A n c wr) (l : Later wr w') : StA B gs gl gp s gv vc ge ec A n c w' :=
  ⟨h.bs.later l, h.bl.later l, own_later h.ov l, own_later h.oe l, h.pk.elim fun k hk => ⟨k, hk.1, hk.2.later l⟩, h.hb⟩
theorem StA.nes (h : StA B gs gl gp s gv vc ge ec A n c wr) : gs ≠ gp ∧ gl ≠ gp ∧ gv ≠ gp ∧ ge ≠ gp := by
  obtain ⟨k, _, hk⟩ := h.pk
  obtain ⟨_, h1⟩ := own_typ h.ov
  obtain ⟨_, h2⟩ := own_typ h.oe
  exact ⟨ne_typ h.bs hk (by decide), ne_typ h.bl hk (by decide), ne_typ h1 hk (by decide), ne_typ h2 hk (by decide)⟩
theorem StA.far (h : StA B gs gl gp s gv vc ge ec A n c wr) (f : Far gp wr w') {bs : List Nat} (hp : Pks w' gp A n c bs) : StA B gs gl gp s gv vc ge ec A n c w' := by
  obtain ⟨n1, n2, n3, n4⟩ := h.nes
  exact ⟨f.blk h.bs n1, f.blk h.bl n2, own_far2 h.ov f n3, own_far2 h.oe f n4, hp.pk, h.hb⟩
end
/-- Where SchemaStays' loop stands. -/
def StR (w0 : World) (gs gl gp : Nat) (A : Option Addr) (n c : Nat) (iv : Value) (wr : World) : Prop :=
  ∃ (i : Nat) (s : St3) (gv vc ge ec : Nat), iv = .int .i64 i ∧ i ≤ 12 ∧ MayQ s.1 s.2.1 ∧ LayQ (s.1.map (·.1)) s.1.length s.2.2 ∧ StA w0.heap.size gs gl gp s gv vc ge ec A n c wr ∧ Later w0 wr
theorem StR.mk {w0 wr : World} {gs gl gp : Nat} {A : Option Addr} {n c : Nat} (y : Int) (i : Nat) (s : St3) (gv vc ge ec : Nat) (hy : y = (i : Int)) (hi : i ≤ 12) (h1 : MayQ s.1 s.2.1) (h2 : LayQ (s.1.map (·.1)) s.1.length s.2.2) (h3 : StA w0.heap.size gs gl gp s gv vc ge ec A n c wr) (l : Later w0 wr) : StR w0 gs gl gp A n c (.int .i64 y) wr := by
  subst hy; exact ⟨i, s, gv, vc, ge, ec, rfl, hi, h1, h2, h3, l⟩

set_option maxRecDepth 100000 in
set_option maxHeartbeats 4000000 in
theorem schemaStays_long (A : Option Addr) (n c : Nat) (A2 : Option Addr) (n2 c2 : Nat) (w : World) (f : Int → Addr) (hs : S15 w f) (h3 : S3 w) (hn : 60 < n ∨ 100 < n2) :
    Calls Tryd.prog 4 #[.slice A n c, .slice A2 n2 c2] w fun e w' => e = .returned (.bool true) ∧ Later w w' := by
  have HB := Lib.hid (begun15_any w f hs h3)
  have HN := Lib.hid hn
  clear hs h3 hn
  go_enter Tryd.func4, Tryd.ntmps4
  go_wp2_with fail
  refine HB.out.mono ?_
  rintro e w1 ⟨rfl, l1⟩
  have HL1 := Lib.hid l1
  clear l1 HB
  by_cases h1 : 60 < n
  · have hn0 : (60 : Int) < (n : Int) := by omega
    go_wp2_with fail
    go_ret
    exact ⟨rfl, HL1.out⟩
  · have h2 : 100 < n2 := HN.out.resolve_left h1
    have hn0 : ¬ (60 : Int) < (n : Int) := by omega
    have hn60 : (100 : Int) < (n2 : Int) := by omega
    go_wp2_with fail
    go_ret
    exact ⟨rfl, HL1.out⟩
end Go.Proofs.YtklohbglkbhjhaaDoor
