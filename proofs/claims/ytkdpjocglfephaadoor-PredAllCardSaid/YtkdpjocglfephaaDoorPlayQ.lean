
import Derived.Test.YtkdpjocglfephaaDoorPlayS
import Derived.Test.YtkdpjocglfephaaDoorPlayR
import Derived.Test.YtkdpjocglfephaaDoorZoneM
import Derived.Test.YtkdpjocglfephaaDoorBase
import Derived.Test.YtkdpjocglfephaaDoorPlayV
import Derived.Test.YtkdpjocglfephaaDoorPlayN
import Derived.Laws.Rows
import Derived.WalkKit
import Derived.Laws.OwnMore
import Derived.Laws.BytesArg
import Derived.Deep.AppendLies
import Derived.Deep.Draws
import Derived.Test.YtkdpjocglfephaaDoorChecked
import Derived.Deep.OwnRows
import Derived.Lib.Hide
import Derived.Deep.Quiet
import Derived.Laws.AppendOwnNone
import Derived.Lib.Strings
import Derived.Outline
import Derived.WalkLawsBesides
import Derived.WalkSpells
import Derived.PlainAid
import Derived.Deep.QuietTactic
import Derived.BigQuiet
import Derived.RegionTactic
import Derived.BigRegion
import Derived.Handy
import Derived.Laws.BitsAllLaws
import Derived.Deep.RegionWith
import Derived.Lib.AppendStr
import Derived.Deep.RegionLaw
import Derived.Maps.AppendAt
import Derived.OpenShut
import Derived.WideShapes
import Derived.ChangeArms
import Derived.Deep.Slices
import Derived.Sort.Grow
import Derived.OrdersHeld
import Derived.LaidEql
import Derived.Stop.Asserts
import Derived.RowKitTokens
import Derived.Laws.BitsLemmas
import Derived.Laws.Bits64
import Derived.WalkSmall
import Derived.Stop.IfaceNil
import Derived.Lib.Bytealg
import Derived.Deep.SlicePairs
/- The walk of rabbetplay's Query. -/




namespace Go.Proofs.YtkdpjocglfephaaDoor
open Go.RowKit
set_option linter.unusedVariables false

/-- Of what was there only two blocks have turned. -/
structure Far2 (g h : Nat) (w w' : World) : Prop where
  lt : g < h ∧ h < w.heap.size
  below : Below g w w'
  block : ∀ j, j < w.heap.size → j ≠ g → j ≠ h → w'.heap[j]? = w.heap[j]?
section
variable {g h : Nat} {w w' w'' : World}
theorem Far2.refl (hl : g < h ∧ h < w.heap.size) : Far2 g h w w := ⟨hl, Below.refl _ _, fun _ _ _ _ => rfl⟩
theorem Far2.size (f : Far2 g h w w') : w.heap.size ≤ w'.heap.size := f.below.size
theorem Far2.trans (f : Far2 g h w w') (k : Far2 g h w' w'') : Far2 g h w w'' :=
  ⟨f.lt, f.below.trans k.below, fun j hj h1 h2 => (k.block j (Nat.lt_of_lt_of_le hj f.size) h1 h2).trans (f.block j hj h1 h2)⟩
theorem Far2.of (hl : g < h ∧ h < w.heap.size) (l : Far g w w') : Far2 g h w w' := ⟨hl, l.2.1, fun j hj h1 _ => l.2.2 j hj h1⟩
theorem Far2.far (f : Far2 g h w w') (l : Far g w' w'') : Far2 g h w w'' := f.trans (Far2.of ⟨f.lt.1, Nat.lt_of_lt_of_le f.lt.2 f.size⟩ l)
theorem Far2.later (f : Far2 g h w w') (l : Later w' w'') : Far2 g h w w'' := f.far (Far.of (Nat.lt_of_lt_of_le (Nat.lt_trans f.lt.1 f.lt.2) f.size) l)
theorem Far2.set_ (f : Far2 g h w w') (k : Nat) (v : Value) : Far2 g h w (w'.setCell ⟨h, k, none⟩ v) :=
  ⟨f.lt, f.below.setCell (p := ⟨h, k, none⟩) (Nat.le_of_lt f.lt.1) _, fun j hj h1 h2 => (Below.heap_setCell w' ⟨h, k, none⟩ v j h2).trans (f.block j hj h1 h2)⟩
theorem Far2.grown (f : Far2 g h w w') (hb : Below w.heap.size w' w'') : Far2 g h w w'' :=
  ⟨f.lt, f.below.trans (hb.mono (by have := f.lt; omega)), fun j hj h1 h2 => (hb.block j hj).trans (f.block j hj h1 h2)⟩
theorem Far2.to {v : World} (f : Far2 g h w w') (k : Far g v w) (hv : v.heap.size ≤ h) : Far g v w' :=
  ⟨k.1, k.2.1.trans f.below, fun j hj h1 => (f.block j (Nat.lt_of_lt_of_le hj k.size) h1 (by omega)).trans (k.2.2 j hj h1)⟩
theorem Far2.blk {q : Nat} {cs : Array Value} {t : TypeId} (f : Far2 g h w w') (b : Blk w q cs t) (h1 : q ≠ g) (h2 : q ≠ h) : Blk w' q cs t := (f.block q b.lt h1 h2).trans b
theorem Far2.own {base : Nat} {e : TypeId} {k : Nat} {v : Value} {n : Nat} {xs : List Value} (f : Far2 g h w w') (hb : h < base) (o : w.ownsRow base e k v n xs) : w'.ownsRow base e k v n xs :=
  own_block o fun q hq => f.block q (own_at o hq).2 (by have := (own_at o hq).1; have := f.lt; omega) (by have := (own_at o hq).1; omega)
end
/-- A test, as Query makes it. -/
def FitT (xs : List Col3) (l : List Tst) : Prop := ∀ t ∈ l, (∃ x ∈ xs, t.nm = x.2.1 ∧ FitV x.2.2 t.v) ∧ 1 ≤ t.op ∧ t.op ≤ 8
/-- Names of columns. -/
def FitN (xs : List Col3) (l : List ByteArray) : Prop := ∀ s ∈ l, ∃ x ∈ xs, s = x.2.1
theorem info_str : (Tryd.prog.info? 9).map (fun i => (i.zero, i.size, i.bytes)) = some (some (.string ⟨#[]⟩), 1, 16) := by kernel_rfl
theorem info_t : (Tryd.prog.info? 28).map (fun i => (i.zero, i.size, i.bytes)) = some (some (tagg ⟨#[]⟩ 0 0 0 ⟨#[]⟩ false false), 7, 64) := by kernel_rfl
theorem lims (r : Nat) (hr : r < 6) : ∃ z : Int, (#[Value.int .i64 0, .int .i64 0, .int .i64 0, .int .i64 1, .int .i64 3, .int .i64 10] : Array Value)[r]? = some (.int .i64 z) ∧ 0 ≤ z ∧ z ≤ 10 := by
  obtain rfl | rfl | rfl | rfl | rfl | rfl : r = 0 ∨ r = 1 ∨ r = 2 ∨ r = 3 ∨ r = 4 ∨ r = 5 := by omega
  all_goals exact ⟨_, rfl, by decide, by decide⟩
/-- Where Query's first loop stands. -/
def Q1 (xs : List Col3) (g : Nat) (A : Option Addr) (n c : Nat) (bs : List Nat) (z : Int) (g5 : Nat) (w0 : World) (iv : Value) (wr : World) : Prop :=
  ∃ (k : Nat) (ns : List ByteArray) (C : Option Addr) (cn cc : Nat), iv = .int .i64 k ∧ k + cn ≤ 2 ∧ cn = ns.length ∧ FitN xs ns ∧ Far2 g g5 w0 wr ∧ Pks wr g A n c bs ∧
    Blk wr g5 #[.slice C cn cc, .slice none 0 0, .slice none 0 0, .slice none 0 0, .int .i64 z] 45 ∧ wr.ownsRow w0.heap.size 9 1 (.slice C cn cc) cn (ns.map Value.string) ∧ (C = none → cc = 0)
theorem Q1.mk {xs : List Col3} {g : Nat} {A : Option Addr} {n c : Nat} {bs : List Nat} {z : Int} {g5 : Nat} {w0 wr : World} (y : Int) (k : Nat) (ns : List ByteArray) (C : Option Addr) (cn cc : Nat) (hy : y = (k : Int)) (hk : k + cn ≤ 2) (hn : cn = ns.length) (hf : FitN xs ns) (f : Far2 g g5 w0 wr) (p : Pks wr g A n c bs)
    (b : Blk wr g5 #[.slice C cn cc, .slice none 0 0, .slice none 0 0, .slice none 0 0, .int .i64 z] 45) (o : wr.ownsRow w0.heap.size 9 1 (.slice C cn cc) cn (ns.map Value.string)) (hc : C = none → cc = 0) : Q1 xs g A n c bs z g5 w0 (.int .i64 y) wr := by
  subst hy; exact ⟨k, ns, C, cn, cc, rfl, hk, hn, hf, f, p, b, o, hc⟩
/-- Sums of columns, as Query makes them; keys. -/
def fa (l : List (Int × ByteArray)) : List Value := l.flatMap fun x => [.int .i64 x.1, .string x.2]
def fk (l : List (ByteArray × Bool)) : List Value := l.flatMap fun x => [.string x.1, .bool x.2]
theorem fa_append (a b : List (Int × ByteArray)) : fa (a ++ b) = fa a ++ fa b := List.flatMap_append
theorem fk_append (a b : List (ByteArray × Bool)) : fk (a ++ b) = fk a ++ fk b := List.flatMap_append
def FitA (xs : List Col3) (l : List (Int × ByteArray)) : Prop := ∀ x ∈ l, (1 ≤ x.1 ∧ x.1 ≤ 4) ∧ ((∃ c ∈ xs, x.2 = c.2.1) ∨ (x.1 = 1 ∧ x.2 = ⟨#[]⟩))
def FitK (xs : List Col3) (l : List (ByteArray × Bool)) : Prop := ∀ x ∈ l, ∃ c ∈ xs, x.1 = c.2.1
theorem info_a : (Tryd.prog.info? 83).map (fun i => (i.zero, i.size, i.bytes)) = some (some (.agg #[.int .i64 0, .string ⟨#[]⟩]), 2, 24) := by kernel_rfl
theorem info_k : (Tryd.prog.info? 85).map (fun i => (i.zero, i.size, i.bytes)) = some (some (.agg #[.string ⟨#[]⟩, .bool false]), 2, 24) := by kernel_rfl
/-- Where Query's loop 3 stands. -/
def Q3 (xs : List Col3) (g : Nat) (A : Option Addr) (n c : Nat) (bs : List Nat) (z : Int) (g5 : Nat) (cv tv : Value) (w0 : World) (iv : Value) (wr : World) : Prop :=
  ∃ (k : Nat) (l : List (Int × ByteArray)) (C : Option Addr) (cn cc : Nat), iv = .int .i64 k ∧ k + cn ≤ 2 ∧ cn = l.length ∧ FitA xs l ∧ Far2 g g5 w0 wr ∧ Pks wr g A n c bs ∧
    Blk wr g5 #[cv, tv, .slice C cn cc, .slice none 0 0, .int .i64 z] 45 ∧ wr.ownsRow w0.heap.size 83 2 (.slice C cn cc) cn (fa l) ∧ (C = none → cc = 0)
theorem Q3.mk {xs : List Col3} {g : Nat} {A : Option Addr} {n c : Nat} {bs : List Nat} {z : Int} {g5 : Nat} {cv tv : Value} {w0 wr : World} (y : Int) (k : Nat) (l : List (Int × ByteArray)) (C : Option Addr) (cn cc : Nat) (hy : y = (k : Int)) (hk : k + cn ≤ 2) (hn : cn = l.length) (hf : FitA xs l) (f : Far2 g g5 w0 wr) (p : Pks wr g A n c bs)
    (b : Blk wr g5 #[cv, tv, .slice C cn cc, .slice none 0 0, .int .i64 z] 45) (o : wr.ownsRow w0.heap.size 83 2 (.slice C cn cc) cn (fa l)) (hc : C = none → cc = 0) : Q3 xs g A n c bs z g5 cv tv w0 (.int .i64 y) wr := by
  subst hy; exact ⟨k, l, C, cn, cc, rfl, hk, hn, hf, f, p, b, o, hc⟩
/-- Where Query's loop 4 stands. -/
def Q4 (xs : List Col3) (g : Nat) (A : Option Addr) (n c : Nat) (bs : List Nat) (z : Int) (g5 : Nat) (cv tv gv : Value) (w0 : World) (iv : Value) (wr : World) : Prop :=
  ∃ (k : Nat) (l : List (ByteArray × Bool)) (C : Option Addr) (cn cc : Nat), iv = .int .i64 k ∧ k + cn ≤ 2 ∧ cn = l.length ∧ FitK xs l ∧ Far2 g g5 w0 wr ∧ Pks wr g A n c bs ∧
    Blk wr g5 #[cv, tv, gv, .slice C cn cc, .int .i64 z] 45 ∧ wr.ownsRow w0.heap.size 85 2 (.slice C cn cc) cn (fk l) ∧ (C = none → cc = 0)
theorem Q4.mk {xs : List Col3} {g : Nat} {A : Option Addr} {n c : Nat} {bs : List Nat} {z : Int} {g5 : Nat} {cv tv gv : Value} {w0 wr : World} (y : Int) (k : Nat) (l : List (ByteArray × Bool)) (C : Option Addr) (cn cc : Nat) (hy : y = (k : Int)) (hk : k + cn ≤ 2) (hn : cn = l.length) (hf : FitK xs l) (f : Far2 g g5 w0 wr) (p : Pks wr g A n c bs)
    (b : Blk wr g5 #[cv, tv, gv, .slice C cn cc, .int .i64 z] 45) (o : wr.ownsRow w0.heap.size 85 2 (.slice C cn cc) cn (fk l)) (hc : C = none → cc = 0) : Q4 xs g A n c bs z g5 cv tv gv w0 (.int .i64 y) wr := by
  subst hy; exact ⟨k, l, C, cn, cc, rfl, hk, hn, hf, f, p, b, o, hc⟩
theorem own_low {w : World} {base base' : Nat} {e : TypeId} {k : Nat} {v : Value} {n : Nat} {xs : List Value} (h : w.ownsRow base e k v n xs) (hb : base' ≤ base) : w.ownsRow base' e k v n xs := by
  obtain ⟨p1, p2⟩ := h
  refine ⟨p1, ?_⟩
  rcases p2 with p2 | ⟨q, cap, cur, ha, hb', hrest⟩
  · exact .inl p2
  · exact .inr ⟨q, cap, cur, ha, by omega, hrest⟩
theorem has_at {w : World} {A : Option Addr} {xs : List Value} (h : Has w A xs) (k : Nat) (hk : k < xs.length) : ∃ b off, A = some ⟨b, off, none⟩ ∧ w.cell? ⟨b, off + k, none⟩ = some xs[k] := by
  rcases h with h | ⟨b, off, hA, _, hc⟩
  · rw [h] at hk; simp at hk
  · exact ⟨b, off, hA, hc k _ (List.getElem?_eq_getElem hk)⟩
/-- What is left when Query's result is stored. -/
structure QE (w : World) (g : Nat) (A : Option Addr) (n c : Nat) (bs : List Nat) (C : Option Addr) (cn cc : Nat) (ns : List ByteArray) (T : Option Addr) (tn tc : Nat) (l : List Tst) (G : Option Addr) (gn gc : Nat) (ag : List (Int × ByteArray)) (Kk : Option Addr) (kn kc : Nat) (ky : List (ByteArray × Bool)) (wr : World) : Prop where
  pk : Pks wr g A n c bs
  far : Far g w wr
  oC : wr.ownsRow (w.heap.size + 2) 9 1 (.slice C cn cc) cn (ns.map Value.string)
  oT : wr.ownsRow (w.heap.size + 2) 28 7 (.slice T tn tc) tn (ft l)
  oG : wr.ownsRow (w.heap.size + 2) 83 2 (.slice G gn gc) gn (fa ag)
  oK : wr.ownsRow (w.heap.size + 2) 85 2 (.slice Kk kn kc) kn (fk ky)
theorem QE.set_ {w : World} {g : Nat} {A : Option Addr} {n c : Nat} {bs : List Nat} {C : Option Addr} {cn cc : Nat} {ns : List ByteArray} {T : Option Addr} {tn tc : Nat} {l : List Tst} {G : Option Addr} {gn gc : Nat} {ag : List (Int × ByteArray)} {Kk : Option Addr} {kn kc : Nat} {ky : List (ByteArray × Bool)} {wr : World}
    (h : QE w g A n c bs C cn cc ns T tn tc l G gn gc ag Kk kn kc ky wr) {h1 : Nat} (hh : h1 = w.heap.size + 1) (k : Nat) (v : Value) : QE w g A n c bs C cn cc ns T tn tc l G gn gc ag Kk kn kc ky (wr.setCell ⟨h1, k, none⟩ v) := by
  have hg := h.far.1
  have hb : ∀ {base size : Nat} {e : TypeId} {m : Nat} {u : Value} {us : List Value}, w.heap.size + 2 ≤ base → wr.ownsRow base e size u m us → (wr.setCell ⟨h1, k, none⟩ v).ownsRow base e size u m us :=
    fun hle o => own_block o fun q hq => Below.heap_setCell wr ⟨h1, k, none⟩ v q (by have := (own_at o hq).1; show q ≠ h1; omega)
  exact ⟨h.pk.far (p := ⟨h1, k, none⟩) (by show g < h1; omega) v, h.far.set_new (p := ⟨h1, k, none⟩) (by show w.heap.size ≤ h1; omega) v, hb (Nat.le_refl _) h.oC, hb (Nat.le_refl _) h.oT, hb (Nat.le_refl _) h.oG, hb (Nat.le_refl _) h.oK⟩
/-- What Query answers. -/
def QueryP (xs : List Col3) (g : Nat) (A : Option Addr) (n c : Nat) (bs : List Nat) (w : World) (e : Ending) (w' : World) : Prop :=
  ∃ (C : Option Addr) (cn cc : Nat) (ns : List ByteArray) (T : Option Addr) (tn tc : Nat) (l : List Tst) (G : Option Addr) (gn gc : Nat) (ag : List (Int × ByteArray)) (Kk : Option Addr) (kn kc : Nat) (ky : List (ByteArray × Bool)) (z : Int),
    e = .returned (.agg #[.slice C cn cc, .slice T tn tc, .slice G gn gc, .slice Kk kn kc, .int .i64 z]) ∧ ((cn = ns.length ∧ cn ≤ 2) ∧ FitN xs ns ∧ (C = none → cc = 0)) ∧ ((tn = l.length ∧ tn ≤ 3) ∧ FitT xs l ∧ (T = none → tc = 0)) ∧ ((gn = ag.length ∧ gn ≤ 3) ∧ FitA xs ag ∧ (G = none → gc = 0)) ∧ ((kn = ky.length ∧ kn ≤ 2) ∧ FitK xs ky ∧ (Kk = none → kc = 0)) ∧ (0 ≤ z ∧ z ≤ 10) ∧
    QE w g A n c bs C cn cc ns T tn tc l G gn gc ag Kk kn kc ky w'
/-- Where Query's second loop stands. -/
def Q2 (xs : List Col3) (g : Nat) (A : Option Addr) (n c : Nat) (bs : List Nat) (z : Int) (g5 : Nat) (cv : Value) (w0 : World) (iv : Value) (wr : World) : Prop :=
  ∃ (k : Nat) (l : List Tst) (C : Option Addr) (cn cc : Nat), iv = .int .i64 k ∧ k + cn ≤ 3 ∧ cn = l.length ∧ FitT xs l ∧ Far2 g g5 w0 wr ∧ Pks wr g A n c bs ∧
    Blk wr g5 #[cv, .slice C cn cc, .slice none 0 0, .slice none 0 0, .int .i64 z] 45 ∧ wr.ownsRow w0.heap.size 28 7 (.slice C cn cc) cn (ft l) ∧ (C = none → cc = 0)
theorem Q2.mk {xs : List Col3} {g : Nat} {A : Option Addr} {n c : Nat} {bs : List Nat} {z : Int} {g5 : Nat} {cv : Value} {w0 wr : World} (y : Int) (k : Nat) (l : List Tst) (C : Option Addr) (cn cc : Nat) (hy : y = (k : Int)) (hk : k + cn ≤ 3) (hn : cn = l.length) (hf : FitT xs l) (f : Far2 g g5 w0 wr) (p : Pks wr g A n c bs)
    (b : Blk wr g5 #[cv, .slice C cn cc, .slice none 0 0, .slice none 0 0, .int .i64 z] 45) (o : wr.ownsRow w0.heap.size 28 7 (.slice C cn cc) cn (ft l)) (hc : C = none → cc = 0) : Q2 xs g A n c bs z g5 cv w0 (.int .i64 y) wr := by
  subst hy; exact ⟨k, l, C, cn, cc, rfl, hk, hn, hf, f, p, b, o, hc⟩

set_option maxRecDepth 100000 in
set_option maxHeartbeats 8000000 in
theorem query_any (g : Nat) (A : Option Addr) (n c : Nat) (bs : List Nat) (V : Option Addr) (vn vc : Nat) (last : Int) (xs : List Col3) (w : World) (hc : PkC n bs) (hp : Pks w g A n c bs) (hvn : vn = xs.length) (hl : 1 ≤ vn ∧ vn ≤ 1000) (hV : HasX (some g) w V (fc xs)) :
    Calls Tryd.prog 9 #[.pointer (some ⟨g, 0, none⟩), .agg #[.slice V vn vc, .int .i64 last]] w (QueryP xs g A n c bs w) := by
  obtain ⟨h0, hh0⟩ : ∃ x, w.heap.size = x := ⟨_, rfl⟩
  have HCC := Lib.hid hc
  have HG := Lib.hid (show g < h0 by rw [← hh0]; exact hp.lt)
  obtain ⟨w1, hw1⟩ : ∃ x : World, ((w.alloc (.cells #[.slice V vn vc, .int .i64 last] 33)).alloc (.cells #[.slice none 0 0, .slice none 0 0, .slice none 0 0, .slice none 0 0, .int .i64 0] 45)).alloc (.cells #[.int .i64 0, .int .i64 0, .int .i64 0, .int .i64 1, .int .i64 3, .int .i64 10] 3) = x := ⟨_, rfl⟩
  have l1 : Later w w1 := hw1 ▸ ((Later.new w _).alloc _).alloc _
  have hs1 : w1.heap.size = h0 + 3 := by rw [← hw1, ← hh0]; simp
  have HB0 := Lib.hid (show Blk w1 h0 #[.slice V vn vc, .int .i64 last] 33 from hw1 ▸ ((Blk.new w _ _ h0 hh0.symm).later (Later.new _ _)).later (Later.new _ _))
  have HB1 := Lib.hid (show Blk w1 (h0 + 1) #[.slice none 0 0, .slice none 0 0, .slice none 0 0, .slice none 0 0, .int .i64 0] 45 from hw1 ▸ (Blk.new _ _ _ (h0 + 1) (by simp [hh0])).later (Later.new _ _))
  have HB2 := Lib.hid (show Blk w1 (h0 + 2) #[.int .i64 0, .int .i64 0, .int .i64 0, .int .i64 1, .int .i64 3, .int .i64 10] 3 from hw1 ▸ Blk.new _ _ _ _ (by simp [hh0]))
  have HF1 := Lib.hid (Far.of hp.lt l1)
  have HP1 := Lib.hid (hp.later l1)
  have HV1 := Lib.hid (hV.later l1)
  have HVN := Lib.hid hvn
  have HV := Lib.hid hV
  clear l1 hp hV hvn hc
  go_enter Tryd.func9, Tryd.ntmps9
  go_wp2_with fail
  clear hw1
  refine (num_any 6 g A n c bs w1 (by omega) HCC.out HP1.out).mono ?_
  rintro e w2 ⟨r, hr, rfl, hp2, hf2⟩
  obtain ⟨z, hz, hz0, hz1⟩ := lims r hr
  have HZ := Lib.hid (show 0 ≤ z ∧ z ≤ 10 from ⟨hz0, hz1⟩)
  have c2 := (hf2.blk HB2.out (by have := HG.out; omega)).cell r _ hz
  have hrl : (r : Int) < 6 := by omega
  have hr0 : (0 : Int) ≤ (r : Int) := by omega
  obtain ⟨g5, hg5⟩ : ∃ x, w2.heap.size = x := ⟨_, rfl⟩
  obtain ⟨w3, hw3⟩ : ∃ x : World, w2.alloc (.cells #[.slice none 0 0, .slice none 0 0, .slice none 0 0, .slice none 0 0, .int .i64 z] 45) = x := ⟨_, rfl⟩
  have l3 : Later w2 w3 := hw3 ▸ Later.new _ _
  have HG5 := Lib.hid (show h0 + 3 ≤ g5 by rw [← hg5, ← hs1]; exact hf2.size)
  have HF3 := Lib.hid ((HF1.out.trans hf2).later l3)
  have HP3 := Lib.hid (hp2.later l3)
  have HV3 := Lib.hid ((HV1.out.far hf2).later l3)
  have HS3 := Lib.hid ((hf2.blk HB0.out (by have := HG.out; omega)).later l3)
  have HR3 := Lib.hid ((hf2.blk HB1.out (by have := HG.out; omega)).later l3)
  have HQ3 := Lib.hid (show Blk w3 g5 #[.slice none 0 0, .slice none 0 0, .slice none 0 0, .slice none 0 0, .int .i64 z] 45 from hw3 ▸ Blk.new _ _ _ _ hg5.symm)
  have hlt3 : g < g5 ∧ g5 < w3.heap.size := ⟨by have := HG.out; have := HG5.out; omega, HQ3.out.lt⟩
  have HL3 := Lib.hid hlt3
  clear HB0 HB1 HB2 HF1 HP1 HV1 l3 hp2 hf2 hz hz0 hz1
  go_wp2_with fail
  clear c2 hw3 hg5
  have HN3 := Lib.hid (num_any 3 g A n c bs w3 (by omega) HCC.out HP3.out)
  have HSC := Lib.hid (fun W (f : Far2 g g5 w3 W) => (f.blk HS3.out (by have := HG.out; omega) (by have := HG5.out; omega)).cell 0 _ rfl : ∀ W, Far2 g g5 w3 W → W.cell? ⟨h0, 0, none⟩ = some (.slice V vn vc))
  have HVW := Lib.hid (fun W (f : Far2 g g5 w3 W) => HV.out.far (f.to HF3.out (by have := HG5.out; omega)) : ∀ W, Far2 g g5 w3 W → HasX (some g) W V (fc xs))
  obtain ⟨vb, voff, hVA, _⟩ := HV3.out.has.col3 0 (by have := HVN.out; omega)
  subst hVA
  have HCK := Lib.hid (fun W (f : Far2 g g5 w3 W) k hk => by
    obtain ⟨b', off', hA', _, w1', w2'⟩ := (HVW.out W f).has.col3 k hk
    injection hA' with hA'; injection hA' with e1 e2
    subst e1 e2
    exact ⟨w1', w2'⟩ : ∀ W, Far2 g g5 w3 W → ∀ k (hk : k < xs.length), W.cell? ⟨vb, voff + k * 3 + 1, none⟩ = some (.string xs[k].2.1) ∧ W.cell? ⟨vb, voff + k * 3 + 2, none⟩ = some (.int .i64 xs[k].2.2))
  refine HN3.out.mono ?_
  rintro e w4 ⟨r0, hr0, rfl, hp4, hf4⟩
  have HI0 := Lib.hid (Q1.mk (xs := xs) (g := g) (A := A) (n := n) (c := c) (bs := bs) (z := z) (g5 := g5) (w0 := w3) (wr := w4) r0 r0 [] none 0 0 rfl (by omega) rfl (fun s hs => by cases hs) (Far2.of hlt3 hf4) hp4 (hf4.blk HQ3.out (by omega)) (ownG_nil _ _ _ _) (fun _ => rfl))
  clear HN3 hp4 hf4 HV3 HP3 hlt3 hr0
  go_wp2_with fail
  go_loopw [6] (fun iv wr => Q1 xs g A n c bs z g5 w3 iv wr) (fun i _ => (intOf i).toNat)
  case atStart => exact HI0.out
  case round =>
    obtain ⟨k, ns, C, cn, cc, rfl, hk, hcn, hns, f3, hpk, hbl, hown, hcc⟩ := hrel
    have HNS := Lib.hid hns
    have HCN := Lib.hid hcn
    have HCNIL := Lib.hid hcc
    have HP := Lib.hid hpk
    have HBL := Lib.hid hbl
    have HOWN := Lib.hid hown
    clear HI0 hns hcc hpk hcn hbl hown
    by_cases hk0 : 0 < k
    · have hkk : (0 : Int) < (k : Int) := by omega
      have hS : (fun W : World => Far2 g g5 w3 W ∧ W.cell? ⟨g5, 0, none⟩ = some (.slice C cn cc)) wr := ⟨f3, HBL.out.cell 0 _ rfl⟩
      have HF3W := Lib.hid f3
      clear f3
      go_wp2_with fail
      refine wp_region_Z (S := (fun W : World => Far2 g g5 w3 W ∧ W.cell? ⟨g5, 0, none⟩ = some (.slice C cn cc))) 15 (by kernel_rfl) ?_
      have hS : (fun W : World => Far2 g g5 w3 W ∧ W.cell? ⟨g5, 0, none⟩ = some (.slice C cn cc)) (wr).drew := ⟨hS.1.later (Later.refl _).drew, hS.2⟩
      have HP := Lib.hid (HP.out.later (Later.refl _).drew)
      have HBL := Lib.hid (HBL.out.later (Later.refl _).drew)
      have HOWN := Lib.hid (own_later HOWN.out (Later.refl _).drew)
      obtain ⟨wd, hwd⟩ : ∃ x, (wr).drew = x := ⟨_, rfl⟩
      rw [hwd] at hS HP HBL HOWN ⊢
      clear hwd
      refine wpAnyZ_take (i := 0) (oi := { dst := some 24, op := _, type := _, pos := _, after := _, guard := _ }) (v := ?_) rfl (by kernel_rfl) (by kernel_rfl) (by kernel_rfl) (by kernel_rfl) (fun _ _ _ h => h) (Or.inl ⟨by rfl, ?_⟩) hS ?_
      rotate_left
      focus ((intro w hSw; (try dsimp only at hSw); obtain ⟨f, e0⟩ := hSw; have d0 := HSC.out w f; go_simp); (try with_reducible rfl))
      (try simp only [Act.put, List.setIfInBounds_toArray, List.set_cons_zero, List.set_cons_succ])
      refine wpAnyZ_take (i := 1) (oi := { dst := some 25, op := _, type := _, pos := _, after := _, guard := _ }) (v := ?_) rfl (by kernel_rfl) (by kernel_rfl) (by kernel_rfl) (by kernel_rfl) (fun _ _ _ h => h) (Or.inl ⟨by rfl, ?_⟩) hS ?_
      rotate_left
      focus ((intro w hSw; (try dsimp only at hSw); obtain ⟨f, e0⟩ := hSw; have d0 := HSC.out w f; go_simp); (try with_reducible rfl))
      (try simp only [Act.put, List.setIfInBounds_toArray, List.set_cons_zero, List.set_cons_succ])
      refine wpAnyZ_take (i := 2) (oi := { dst := some 26, op := _, type := _, pos := _, after := _, guard := _ }) (v := ?_) rfl (by kernel_rfl) (by kernel_rfl) (by kernel_rfl) (by kernel_rfl) (fun _ _ _ h => h) (Or.inl ⟨by rfl, ?_⟩) hS ?_
      rotate_left
      focus ((intro w hSw; (try dsimp only at hSw); obtain ⟨f, e0⟩ := hSw; have d0 := HSC.out w f; go_simp); (try with_reducible rfl))
      (try simp only [Act.put, List.setIfInBounds_toArray, List.set_cons_zero, List.set_cons_succ])
      refine wpAnyZ_take (i := 3) (oi := { dst := some 27, op := _, type := _, pos := _, after := _, guard := _ }) (v := ?_) rfl (by kernel_rfl) (by kernel_rfl) (by kernel_rfl) (by kernel_rfl) (fun _ _ _ h => h) (Or.inl ⟨by rfl, ?_⟩) hS ?_
      rotate_left
      focus ((intro w hSw; (try dsimp only at hSw); obtain ⟨f, e0⟩ := hSw; have d0 := HSC.out w f; go_simp); (try with_reducible rfl))
      (try simp only [Act.put, List.setIfInBounds_toArray, List.set_cons_zero, List.set_cons_succ])
      refine wpAnyZ_take (i := 4) (oi := { dst := some 28, op := _, type := _, pos := _, after := _, guard := _ }) (v := ?_) rfl (by kernel_rfl) (by kernel_rfl) (by kernel_rfl) (by kernel_rfl) (fun _ _ _ h => h) (Or.inl ⟨by rfl, ?_⟩) hS ?_
      rotate_left
      focus ((intro w hSw; (try dsimp only at hSw); obtain ⟨f, e0⟩ := hSw; have d0 := HSC.out w f; go_simp); (try with_reducible rfl))
      (try simp only [Act.put, List.setIfInBounds_toArray, List.set_cons_zero, List.set_cons_succ])
      refine wpAnyZ_take (i := 5) (oi := { dst := some 29, op := _, type := _, pos := _, after := _, guard := _ }) (v := ?_) rfl (by kernel_rfl) (by kernel_rfl) (by kernel_rfl) (by kernel_rfl) (fun _ _ _ h => h) (Or.inl ⟨by rfl, ?_⟩) hS ?_
      rotate_left
      focus ((intro w hSw; (try dsimp only at hSw); obtain ⟨f, e0⟩ := hSw; have d0 := HSC.out w f; go_simp); (try with_reducible rfl))
      (try simp only [Act.put, List.setIfInBounds_toArray, List.set_cons_zero, List.set_cons_succ])
      refine wpAnyZ_take (i := 6) (oi := { dst := some 30, op := _, type := _, pos := _, after := _, guard := _ }) (v := ?_) rfl (by kernel_rfl) (by kernel_rfl) (by kernel_rfl) (by kernel_rfl) (fun _ _ _ h => h) (Or.inl ⟨by rfl, ?_⟩) hS ?_
      rotate_left
      focus ((intro w hSw; (try dsimp only at hSw); obtain ⟨f, e0⟩ := hSw; have d0 := HSC.out w f; go_simp); (try with_reducible rfl))
      (try simp only [Act.put, List.setIfInBounds_toArray, List.set_cons_zero, List.set_cons_succ])
      refine wpAnyZ_take (i := 7) (oi := { dst := some 31, op := _, type := _, pos := _, after := _, guard := _ }) (v := ?_) rfl (by kernel_rfl) (by kernel_rfl) (by kernel_rfl) (by kernel_rfl) (fun _ _ _ h => h) (Or.inl ⟨by rfl, ?_⟩) hS ?_
      rotate_left
      focus ((intro w hSw; (try dsimp only at hSw); obtain ⟨f, e0⟩ := hSw; have d0 := HSC.out w f; go_simp); (try with_reducible rfl))
      (try simp only [Act.put, List.setIfInBounds_toArray, List.set_cons_zero, List.set_cons_succ])
      refine wpAnyZ_all (rs := [8]) (by kernel_rfl) (by simp) (fun i hi => ?_)
      simp only [List.mem_cons, List.not_mem_nil, or_false] at hi
      subst hi
      refine stepZ (o := { dst := some 32, op := _, type := _, pos := _, after := _, guard := _ }) rfl (fun K hK => ?_)
      go_simp
      refine (num_any vn g A n c bs wd (by omega) HCC.out HP.out).mono ?_
      rintro e wn ⟨r1, hr1, rfl, hp, hf⟩
      have HP := Lib.hid hp
      have HBL := Lib.hid (hf.blk HBL.out (by have := hS.1.lt; omega))
      have HOWN := Lib.hid (hf.own (by have := HL3.out; omega) HOWN.out)
      have hS : (fun W : World => Far2 g g5 w3 W ∧ W.cell? ⟨g5, 0, none⟩ = some (.slice C cn cc)) wn := ⟨hS.1.far hf, HBL.out.cell 0 _ rfl⟩
      refine hK _ _ hS ?_
      clear hK hp hf
      (try simp only [Act.put, List.setIfInBounds_toArray, List.set_cons_zero, List.set_cons_succ])
      have hr1x : r1 < xs.length := by have := HVN.out; omega
      have HNM := Lib.hid (fun W f => (HCK.out W f r1 hr1x).1 : ∀ W, Far2 g g5 w3 W → W.cell? ⟨vb, voff + r1 * 3 + 1, none⟩ = some (.string xs[r1].2.1))
      have HMEM := Lib.hid (List.getElem_mem hr1x)
      generalize xs[r1] = x at HNM HMEM
      obtain ⟨xi, nm, ty⟩ := x
      dsimp only at HNM
      have hr1l : (r1 : Int) < (vn : Int) := by omega
      have hr10 : (0 : Int) ≤ (r1 : Int) := by omega
      refine wpAnyZ_take (i := 9) (oi := { dst := some 33, op := _, type := _, pos := _, after := _, guard := _ }) (v := ?_) rfl (by kernel_rfl) (by kernel_rfl) (by kernel_rfl) (by kernel_rfl) (fun _ _ _ h => h) (Or.inl ⟨by rfl, ?_⟩) hS ?_
      rotate_left
      focus ((intro w hSw; (try dsimp only at hSw); obtain ⟨f, e0⟩ := hSw; have d0 := HSC.out w f; have d1 := HNM.out w f; go_simp); (try with_reducible rfl))
      (try simp only [Act.put, List.setIfInBounds_toArray, List.set_cons_zero, List.set_cons_succ])
      refine wpAnyZ_take (i := 10) (oi := { dst := some 34, op := _, type := _, pos := _, after := _, guard := _ }) (v := ?_) rfl (by kernel_rfl) (by kernel_rfl) (by kernel_rfl) (by kernel_rfl) (fun _ _ _ h => h) (Or.inl ⟨by rfl, ?_⟩) hS ?_
      rotate_left
      focus ((intro w hSw; (try dsimp only at hSw); obtain ⟨f, e0⟩ := hSw; have d0 := HSC.out w f; have d1 := HNM.out w f; go_simp); (try with_reducible rfl))
      (try simp only [Act.put, List.setIfInBounds_toArray, List.set_cons_zero, List.set_cons_succ])
      refine wpAnyZ_take (i := 11) (oi := { dst := some 35, op := _, type := _, pos := _, after := _, guard := _ }) (v := ?_) rfl (by kernel_rfl) (by kernel_rfl) (by kernel_rfl) (by kernel_rfl) (fun _ _ _ h => h) (Or.inl ⟨by rfl, ?_⟩) hS ?_
      rotate_left
      focus ((intro w hSw; (try dsimp only at hSw); obtain ⟨f, e0⟩ := hSw; have d0 := HSC.out w f; have d1 := HNM.out w f; go_simp); (try with_reducible rfl))
      (try simp only [Act.put, List.setIfInBounds_toArray, List.set_cons_zero, List.set_cons_succ])
      refine wpAnyZ_all (rs := [12]) (by kernel_rfl) (by simp) (fun i hi => ?_)
      simp only [List.mem_cons, List.not_mem_nil, or_false] at hi
      subst hi
      refine stepZ (o := { dst := some 36, op := _, type := _, pos := _, after := _, guard := _ }) rfl (fun K hK => ?_)
      go_simp
      obtain ⟨gl, hgl⟩ : ∃ x, (wn).heap.size = x := ⟨_, rfl⟩
      obtain ⟨wl, hwl⟩ : ∃ x, (wn).alloc (.cells #[.string nm] 9) = x := ⟨_, rfl⟩
      have ll : Later wn wl := hwl ▸ Later.new _ _
      have hlit : Has wl (some ⟨gl, 0, none⟩) [.string nm] := hwl ▸ (Blk.new wn [.string nm].toArray 9 gl hgl.symm).has
      try rw [hgl]
      rw [hwl]
      have HP := Lib.hid (HP.out.later ll)
      have HBL := Lib.hid (HBL.out.later ll)
      have HOWN := Lib.hid (own_later HOWN.out ll)
      have hS : (fun W : World => Far2 g g5 w3 W ∧ W.cell? ⟨g5, 0, none⟩ = some (.slice C cn cc)) wl := ⟨hS.1.later ll, (HBL.out.cell 0 _ rfl)⟩
      refine hK _ _ hS ?_
      clear hK hwl ll hgl
      (try simp only [Act.put, List.setIfInBounds_toArray, List.set_cons_zero, List.set_cons_succ])
      refine wpAnyZ_all (rs := [13]) (by kernel_rfl) (by simp) (fun i hi => ?_)
      simp only [List.mem_cons, List.not_mem_nil, or_false] at hi
      subst hi
      refine stepZ (o := { dst := some 37, op := _, type := _, pos := _, after := _, guard := _ }) rfl (fun K hK => ?_)
      refine step_append_x rfl (.tmp 25) (.tmp 36) 41 rfl w3.heap.size 9 _ 1 16 Tryd.underlying41 info_str rfl (by decide) _ cn (ns.map Value.string) rfl HOWN.out gl 0 1 1 [.string nm] rfl hlit rfl (by simp [Value.oneCell']) (by unfold maxLen; omega) (by omega) hS.1.size ?_
      rintro C' cc' wq ho hgr hbl hat hnl
      have hb5 := (hbl.block g5 HL3.out.2 : wq.heap[g5]? = wl.heap[g5]?)
      have B5 : Blk wq g5 #[.slice C cn cc, .slice none 0 0, .slice none 0 0, .slice none 0 0, .int .i64 z] 45 := hb5.trans HBL.out
      have hS : (fun W : World => Far2 g g5 w3 W ∧ W.cell? ⟨g5, 0, none⟩ = some (.slice C cn cc)) wq := ⟨hS.1.grown hbl, B5.cell 0 _ rfl⟩
      refine hK _ _ hS ?_
      have HO := Lib.hid ho
      have HPQ := Lib.hid (HP.out.below hbl (by have := HL3.out; omega))
      clear hK hlit ho hbl hb5
      (try simp only [Act.put, List.setIfInBounds_toArray, List.set_cons_zero, List.set_cons_succ])
      refine wpAnyZ_take (i := 14) (oi := { dst := some 38, op := _, type := _, pos := _, after := _, guard := _ }) (v := ?_) rfl (by kernel_rfl) (by kernel_rfl) (by kernel_rfl) (by kernel_rfl) (fun _ _ _ h => h) (Or.inl ⟨by rfl, ?_⟩) hS ?_
      rotate_left
      focus ((intro w hSw; (try dsimp only at hSw); obtain ⟨f, e0⟩ := hSw; have d0 := HSC.out w f; have d1 := HNM.out w f; go_simp); (try with_reducible rfl))
      (try simp only [Act.put, List.setIfInBounds_toArray, List.set_cons_zero, List.set_cons_succ])
      refine wpAnyZ_all (rs := [15]) (by kernel_rfl) (by simp) (fun i hi => ?_)
      simp only [List.mem_cons, List.not_mem_nil, or_false] at hi
      subst hi
      refine stepZl (o := { dst := none, op := _, type := _, pos := _, after := _, guard := _ }) rfl (fun K hK => ?_)
      have e0 := B5.cell 0 _ rfl
      have y0 := B5.frozen 0
      have B6 := B5.set_ 0 (.slice C' (cn + 1) cc')
      have F6 := hS.1.set_ 0 (.slice C' (cn + 1) cc')
      have P6 := HPQ.out.far (p := ⟨g5, 0, none⟩) HL3.out.1 (.slice C' (cn + 1) cc')
      have O6 := own_block (w' := wq.setCell ⟨g5, 0, none⟩ (.slice C' (cn + 1) cc')) HO.out fun q hq => Below.heap_setCell wq ⟨g5, 0, none⟩ _ q (by have := (own_at HO.out hq).1; have := HL3.out; show q ≠ g5; omega)
      obtain ⟨wz, hwz⟩ : ∃ x, wq.setCell ⟨g5, 0, none⟩ (.slice C' (cn + 1) cc') = x := ⟨_, rfl⟩
      rw [hwz] at B6 F6 P6 O6
      have HNEW := Lib.hid (show ∀ y : Int, y = ((k - 1 : Nat) : Int) → Q1 xs g A n c bs z g5 w3 (.int .i64 y) wz from fun y hy => Q1.mk y (k - 1) (ns ++ [nm]) C' (cn + 1) cc' hy (by omega) (by rw [List.length_append, ← HCN.out]; rfl) (by intro s hs; rcases List.mem_append.1 hs with h | h; exact HNS.out s h; rw [List.mem_singleton] at h; subst h; exact ⟨_, HMEM.out, rfl⟩) F6 P6 B6 (by rw [List.map_append]; exact O6) hnl)
      clear B6 F6 P6 O6 hgr hat
      go_simp
      refine hK _ _ ?_
      clear hK e0 y0 B5 hS hwz
      (try simp only [Act.put, List.setIfInBounds_toArray, List.set_cons_zero, List.set_cons_succ])
      refine wpAnyZ_done (by kernel_rfl) ?_ _
      have hdec : (k : Int) - 1 = ((k - 1 : Nat) : Int) := by omega
      have hwk : IntKind.i64.wrap ((k - 1 : Nat) : Int) = ((k - 1 : Nat) : Int) := IntWalk.i64_in _ ⟨by omega, by omega⟩
      go_wp2_with fail
      go_roundw
      all_goals first
        | exact HNEW.out _ (by omega)
        | exact HNEW.out _ rfl
        | (simp [intOf]; done)
        | (simp [intOf]; omega)
    · have hk0' : k = 0 := by omega
      subst hk0'
      go_wp2_with fail
      refine (num_any 4 g A n c bs wr (by omega) HCC.out HP.out).mono ?_
      rintro e wb ⟨r4, hr4, rfl, hp, hf⟩
      have HP := Lib.hid hp
      have HFB := Lib.hid (f3.far hf)
      have HBLB := Lib.hid (hf.blk HBL.out (by have := HL3.out; omega))
      have HOWNC := Lib.hid (hf.own (by have := HL3.out; omega) HOWN.out)
      have HLB := Lib.hid (show g < g5 ∧ g5 < wb.heap.size from ⟨HL3.out.1, HBLB.out.lt⟩)
      have HJ0 := Lib.hid (Q2.mk (xs := xs) (g := g) (A := A) (n := n) (c := c) (bs := bs) (z := z) (g5 := g5) (cv := .slice C cn cc) (w0 := wb) (wr := wb) r4 r4 [] none 0 0 rfl (by omega) rfl (fun s hs => by cases hs) (Far2.refl HLB.out) hp HBLB.out (ownG_nil _ _ _ _) (fun _ => rfl))
      have HCN := Lib.hid (show cn = ns.length ∧ cn ≤ 2 from ⟨HCN.out, by omega⟩)
      clear hp hf f3 HBL HOWN HP hr4
      go_wp2_with fail
      go_loopw [7] (fun iv wr => Q2 xs g A n c bs z g5 (.slice C cn cc) wb iv wr) (fun i _ => (intOf i).toNat)
      case atStart => exact HJ0.out
      case round =>
        obtain ⟨k, l, T, tn, tc, rfl, hk, htn, hft, f4, hpk, hbl, hown, htc⟩ := hrel
        have HFT := Lib.hid hft
        have HTN := Lib.hid htn
        have HTNIL := Lib.hid htc
        have HP := Lib.hid hpk
        have HBL := Lib.hid hbl
        have HOWN := Lib.hid hown
        clear HJ0 hft htc hpk htn hbl hown
        by_cases hk0 : 0 < k
        · have hkk : (0 : Int) < (k : Int) := by omega
          have d0 := HSC.out wr (HFB.out.trans f4)
          go_wp2_with fail
          refine (num_any vn g A n c bs wr (by omega) HCC.out HP.out).mono ?_
          rintro e wc ⟨ra, hra, rfl, hp, hf⟩
          have HP := Lib.hid hp
          have HBL := Lib.hid (hf.blk HBL.out (by have := HL3.out; omega))
          have HOWN := Lib.hid (hf.own (by have := HLB.out; omega) HOWN.out)
          have hS : (fun W : World => Far2 g g5 wb W ∧ W.cell? ⟨g5, 1, none⟩ = some (.slice T tn tc)) wc := ⟨f4.far hf, HBL.out.cell 1 _ rfl⟩
          have hrax : ra < xs.length := by have := HVN.out; omega
          have HXY := Lib.hid (fun W f => HCK.out W (HFB.out.trans f) ra hrax : ∀ W, Far2 g g5 wb W → W.cell? ⟨vb, voff + ra * 3 + 1, none⟩ = some (.string xs[ra].2.1) ∧ W.cell? ⟨vb, voff + ra * 3 + 2, none⟩ = some (.int .i64 xs[ra].2.2))
          have HMEM := Lib.hid (List.getElem_mem hrax)
          generalize xs[ra] = x at HXY HMEM
          obtain ⟨xi, nm, ty⟩ := x
          dsimp only at HXY
          have hral : (ra : Int) < (vn : Int) := by omega
          have hra0 : (0 : Int) ≤ (ra : Int) := by omega
          clear hp hf f4 d0
          go_wp2_with fail
          refine wp_region_Z (S := (fun W : World => Far2 g g5 wb W ∧ W.cell? ⟨g5, 1, none⟩ = some (.slice T tn tc))) 29 (by kernel_rfl) ?_
          have hS : (fun W : World => Far2 g g5 wb W ∧ W.cell? ⟨g5, 1, none⟩ = some (.slice T tn tc)) (wc).drew := ⟨hS.1.later (Later.refl _).drew, hS.2⟩
          have HP := Lib.hid (HP.out.later (Later.refl _).drew)
          have HBL := Lib.hid (HBL.out.later (Later.refl _).drew)
          have HOWN := Lib.hid (own_later HOWN.out (Later.refl _).drew)
          obtain ⟨wd, hwd⟩ : ∃ x, (wc).drew = x := ⟨_, rfl⟩
          rw [hwd] at hS HP HBL HOWN ⊢
          clear hwd
          refine wpAnyZ_take (i := 0) (oi := { dst := some 50, op := _, type := _, pos := _, after := _, guard := _ }) (v := ?_) rfl (by kernel_rfl) (by kernel_rfl) (by kernel_rfl) (by kernel_rfl) (fun _ _ _ h => h) (Or.inl ⟨by rfl, ?_⟩) hS ?_
          rotate_left
          focus ((intro w hSw; (try dsimp only at hSw); obtain ⟨f, e0⟩ := hSw; have d0 := HSC.out w (HFB.out.trans f); have d1 := (HXY.out w f).1; have d2 := (HXY.out w f).2; go_simp); (try with_reducible rfl))
          (try simp only [Act.put, List.setIfInBounds_toArray, List.set_cons_zero, List.set_cons_succ])
          refine wpAnyZ_take (i := 1) (oi := { dst := some 51, op := _, type := _, pos := _, after := _, guard := _ }) (v := ?_) rfl (by kernel_rfl) (by kernel_rfl) (by kernel_rfl) (by kernel_rfl) (fun _ _ _ h => h) (Or.inl ⟨by rfl, ?_⟩) hS ?_
          rotate_left
          focus ((intro w hSw; (try dsimp only at hSw); obtain ⟨f, e0⟩ := hSw; have d0 := HSC.out w (HFB.out.trans f); have d1 := (HXY.out w f).1; have d2 := (HXY.out w f).2; go_simp); (try with_reducible rfl))
          (try simp only [Act.put, List.setIfInBounds_toArray, List.set_cons_zero, List.set_cons_succ])
          refine wpAnyZ_take (i := 2) (oi := { dst := some 52, op := _, type := _, pos := _, after := _, guard := _ }) (v := ?_) rfl (by kernel_rfl) (by kernel_rfl) (by kernel_rfl) (by kernel_rfl) (fun _ _ _ h => h) (Or.inl ⟨by rfl, ?_⟩) hS ?_
          rotate_left
          focus ((intro w hSw; (try dsimp only at hSw); obtain ⟨f, e0⟩ := hSw; have d0 := HSC.out w (HFB.out.trans f); have d1 := (HXY.out w f).1; have d2 := (HXY.out w f).2; go_simp); (try with_reducible rfl))
          (try simp only [Act.put, List.setIfInBounds_toArray, List.set_cons_zero, List.set_cons_succ])
          refine wpAnyZ_take (i := 3) (oi := { dst := some 53, op := _, type := _, pos := _, after := _, guard := _ }) (v := ?_) rfl (by kernel_rfl) (by kernel_rfl) (by kernel_rfl) (by kernel_rfl) (fun _ _ _ h => h) (Or.inl ⟨by rfl, ?_⟩) hS ?_
          rotate_left
          focus ((intro w hSw; (try dsimp only at hSw); obtain ⟨f, e0⟩ := hSw; have d0 := HSC.out w (HFB.out.trans f); have d1 := (HXY.out w f).1; have d2 := (HXY.out w f).2; go_simp); (try with_reducible rfl))
          (try simp only [Act.put, List.setIfInBounds_toArray, List.set_cons_zero, List.set_cons_succ])
          refine wpAnyZ_take (i := 4) (oi := { dst := some 54, op := _, type := _, pos := _, after := _, guard := _ }) (v := ?_) rfl (by kernel_rfl) (by kernel_rfl) (by kernel_rfl) (by kernel_rfl) (fun _ _ _ h => h) (Or.inl ⟨by rfl, ?_⟩) hS ?_
          rotate_left
          focus ((intro w hSw; (try dsimp only at hSw); obtain ⟨f, e0⟩ := hSw; have d0 := HSC.out w (HFB.out.trans f); have d1 := (HXY.out w f).1; have d2 := (HXY.out w f).2; go_simp); (try with_reducible rfl))
          (try simp only [Act.put, List.setIfInBounds_toArray, List.set_cons_zero, List.set_cons_succ])
          refine wpAnyZ_take (i := 5) (oi := { dst := some 55, op := _, type := _, pos := _, after := _, guard := _ }) (v := ?_) rfl (by kernel_rfl) (by kernel_rfl) (by kernel_rfl) (by kernel_rfl) (fun _ _ _ h => h) (Or.inl ⟨by rfl, ?_⟩) hS ?_
          rotate_left
          focus ((intro w hSw; (try dsimp only at hSw); obtain ⟨f, e0⟩ := hSw; have d0 := HSC.out w (HFB.out.trans f); have d1 := (HXY.out w f).1; have d2 := (HXY.out w f).2; go_simp); (try with_reducible rfl))
          (try simp only [Act.put, List.setIfInBounds_toArray, List.set_cons_zero, List.set_cons_succ])
          refine wpAnyZ_take (i := 6) (oi := { dst := some 56, op := _, type := _, pos := _, after := _, guard := _ }) (v := ?_) rfl (by kernel_rfl) (by kernel_rfl) (by kernel_rfl) (by kernel_rfl) (fun _ _ _ h => h) (Or.inl ⟨by rfl, ?_⟩) hS ?_
          rotate_left
          focus ((intro w hSw; (try dsimp only at hSw); obtain ⟨f, e0⟩ := hSw; have d0 := HSC.out w (HFB.out.trans f); have d1 := (HXY.out w f).1; have d2 := (HXY.out w f).2; go_simp); (try with_reducible rfl))
          (try simp only [Act.put, List.setIfInBounds_toArray, List.set_cons_zero, List.set_cons_succ])
          refine wpAnyZ_take (i := 7) (oi := { dst := some 57, op := _, type := _, pos := _, after := _, guard := _ }) (v := ?_) rfl (by kernel_rfl) (by kernel_rfl) (by kernel_rfl) (by kernel_rfl) (fun _ _ _ h => h) (Or.inl ⟨by rfl, ?_⟩) hS ?_
          rotate_left
          focus ((intro w hSw; (try dsimp only at hSw); obtain ⟨f, e0⟩ := hSw; have d0 := HSC.out w (HFB.out.trans f); have d1 := (HXY.out w f).1; have d2 := (HXY.out w f).2; go_simp); (try with_reducible rfl))
          (try simp only [Act.put, List.setIfInBounds_toArray, List.set_cons_zero, List.set_cons_succ])
          refine wpAnyZ_take (i := 8) (oi := { dst := some 58, op := _, type := _, pos := _, after := _, guard := _ }) (v := ?_) rfl (by kernel_rfl) (by kernel_rfl) (by kernel_rfl) (by kernel_rfl) (fun _ _ _ h => h) (Or.inl ⟨by rfl, ?_⟩) hS ?_
          rotate_left
          focus ((intro w hSw; (try dsimp only at hSw); obtain ⟨f, e0⟩ := hSw; have d0 := HSC.out w (HFB.out.trans f); have d1 := (HXY.out w f).1; have d2 := (HXY.out w f).2; go_simp); (try with_reducible rfl))
          (try simp only [Act.put, List.setIfInBounds_toArray, List.set_cons_zero, List.set_cons_succ])
          refine wpAnyZ_take (i := 11) (oi := { dst := some 61, op := _, type := _, pos := _, after := _, guard := _ }) (v := ?_) rfl (by kernel_rfl) (by kernel_rfl) (by kernel_rfl) (by kernel_rfl) (fun _ _ _ h => h) (Or.inl ⟨by rfl, ?_⟩) hS ?_
          rotate_left
          focus ((intro w hSw; (try dsimp only at hSw); obtain ⟨f, e0⟩ := hSw; have d0 := HSC.out w (HFB.out.trans f); have d1 := (HXY.out w f).1; have d2 := (HXY.out w f).2; go_simp); (try with_reducible rfl))
          (try simp only [Act.put, List.setIfInBounds_toArray, List.set_cons_zero, List.set_cons_succ])
          refine wpAnyZ_take (i := 12) (oi := { dst := some 62, op := _, type := _, pos := _, after := _, guard := _ }) (v := ?_) rfl (by kernel_rfl) (by kernel_rfl) (by kernel_rfl) (by kernel_rfl) (fun _ _ _ h => h) (Or.inl ⟨by rfl, ?_⟩) hS ?_
          rotate_left
          focus ((intro w hSw; (try dsimp only at hSw); obtain ⟨f, e0⟩ := hSw; have d0 := HSC.out w (HFB.out.trans f); have d1 := (HXY.out w f).1; have d2 := (HXY.out w f).2; go_simp); (try with_reducible rfl))
          (try simp only [Act.put, List.setIfInBounds_toArray, List.set_cons_zero, List.set_cons_succ])
          refine wpAnyZ_take (i := 13) (oi := { dst := some 63, op := _, type := _, pos := _, after := _, guard := _ }) (v := ?_) rfl (by kernel_rfl) (by kernel_rfl) (by kernel_rfl) (by kernel_rfl) (fun _ _ _ h => h) (Or.inl ⟨by rfl, ?_⟩) hS ?_
          rotate_left
          focus ((intro w hSw; (try dsimp only at hSw); obtain ⟨f, e0⟩ := hSw; have d0 := HSC.out w (HFB.out.trans f); have d1 := (HXY.out w f).1; have d2 := (HXY.out w f).2; go_simp); (try with_reducible rfl))
          (try simp only [Act.put, List.setIfInBounds_toArray, List.set_cons_zero, List.set_cons_succ])
          refine wpAnyZ_take (i := 14) (oi := { dst := some 64, op := _, type := _, pos := _, after := _, guard := _ }) (v := ?_) rfl (by kernel_rfl) (by kernel_rfl) (by kernel_rfl) (by kernel_rfl) (fun _ _ _ h => h) (Or.inl ⟨by rfl, ?_⟩) hS ?_
          rotate_left
          focus ((intro w hSw; (try dsimp only at hSw); obtain ⟨f, e0⟩ := hSw; have d0 := HSC.out w (HFB.out.trans f); have d1 := (HXY.out w f).1; have d2 := (HXY.out w f).2; go_simp); (try with_reducible rfl))
          (try simp only [Act.put, List.setIfInBounds_toArray, List.set_cons_zero, List.set_cons_succ])
          refine wpAnyZ_take (i := 15) (oi := { dst := some 65, op := _, type := _, pos := _, after := _, guard := _ }) (v := ?_) rfl (by kernel_rfl) (by kernel_rfl) (by kernel_rfl) (by kernel_rfl) (fun _ _ _ h => h) (Or.inl ⟨by rfl, ?_⟩) hS ?_
          rotate_left
          focus ((intro w hSw; (try dsimp only at hSw); obtain ⟨f, e0⟩ := hSw; have d0 := HSC.out w (HFB.out.trans f); have d1 := (HXY.out w f).1; have d2 := (HXY.out w f).2; go_simp); (try with_reducible rfl))
          (try simp only [Act.put, List.setIfInBounds_toArray, List.set_cons_zero, List.set_cons_succ])
          refine wpAnyZ_take (i := 16) (oi := { dst := some 66, op := _, type := _, pos := _, after := _, guard := _ }) (v := ?_) rfl (by kernel_rfl) (by kernel_rfl) (by kernel_rfl) (by kernel_rfl) (fun _ _ _ h => h) (Or.inl ⟨by rfl, ?_⟩) hS ?_
          rotate_left
          focus ((intro w hSw; (try dsimp only at hSw); obtain ⟨f, e0⟩ := hSw; have d0 := HSC.out w (HFB.out.trans f); have d1 := (HXY.out w f).1; have d2 := (HXY.out w f).2; go_simp); (try with_reducible rfl))
          (try simp only [Act.put, List.setIfInBounds_toArray, List.set_cons_zero, List.set_cons_succ])
          refine wpAnyZ_take (i := 17) (oi := { dst := some 67, op := _, type := _, pos := _, after := _, guard := _ }) (v := ?_) rfl (by kernel_rfl) (by kernel_rfl) (by kernel_rfl) (by kernel_rfl) (fun _ _ _ h => h) (Or.inl ⟨by rfl, ?_⟩) hS ?_
          rotate_left
          focus ((intro w hSw; (try dsimp only at hSw); obtain ⟨f, e0⟩ := hSw; have d0 := HSC.out w (HFB.out.trans f); have d1 := (HXY.out w f).1; have d2 := (HXY.out w f).2; go_simp); (try with_reducible rfl))
          (try simp only [Act.put, List.setIfInBounds_toArray, List.set_cons_zero, List.set_cons_succ])
          refine wpAnyZ_take (i := 19) (oi := { dst := some 69, op := _, type := _, pos := _, after := _, guard := _ }) (v := ?_) rfl (by kernel_rfl) (by kernel_rfl) (by kernel_rfl) (by kernel_rfl) (fun _ _ _ h => h) (Or.inl ⟨by rfl, ?_⟩) hS ?_
          rotate_left
          focus ((intro w hSw; (try dsimp only at hSw); obtain ⟨f, e0⟩ := hSw; have d0 := HSC.out w (HFB.out.trans f); have d1 := (HXY.out w f).1; have d2 := (HXY.out w f).2; go_simp); (try with_reducible rfl))
          (try simp only [Act.put, List.setIfInBounds_toArray, List.set_cons_zero, List.set_cons_succ])
          refine wpAnyZ_take (i := 22) (oi := { dst := some 72, op := _, type := _, pos := _, after := _, guard := _ }) (v := ?_) rfl (by kernel_rfl) (by kernel_rfl) (by kernel_rfl) (by kernel_rfl) (fun _ _ _ h => h) (Or.inl ⟨by rfl, ?_⟩) hS ?_
          rotate_left
          focus ((intro w hSw; (try dsimp only at hSw); obtain ⟨f, e0⟩ := hSw; have d0 := HSC.out w (HFB.out.trans f); have d1 := (HXY.out w f).1; have d2 := (HXY.out w f).2; go_simp); (try with_reducible rfl))
          (try simp only [Act.put, List.setIfInBounds_toArray, List.set_cons_zero, List.set_cons_succ])
          refine wpAnyZ_all (rs := [9]) (by kernel_rfl) (by simp) (fun i hi => ?_)
          simp only [List.mem_cons, List.not_mem_nil, or_false] at hi
          subst hi
          refine stepZ (o := { dst := some 59, op := _, type := _, pos := _, after := _, guard := _ }) rfl (fun K hK => ?_)
          go_simp
          refine (num_any 8 g A n c bs wd (by omega) HCC.out HP.out).mono ?_
          rintro e we ⟨r8, hr8, rfl, hp, hf⟩
          have HP := Lib.hid hp
          have HBL := Lib.hid (hf.blk HBL.out (by have := HLB.out; omega))
          have HOWN := Lib.hid (hf.own (by have := HLB.out; omega) HOWN.out)
          have hS : (fun W : World => Far2 g g5 wb W ∧ W.cell? ⟨g5, 1, none⟩ = some (.slice T tn tc)) we := ⟨hS.1.far hf, HBL.out.cell 1 _ rfl⟩
          refine hK _ _ hS ?_
          clear hK hp hf
          (try simp only [Act.put, List.setIfInBounds_toArray, List.set_cons_zero, List.set_cons_succ])
          have hw8 : IntKind.i64.wrap (1 + (r8 : Int)) = 1 + (r8 : Int) := IntWalk.i64_in _ ⟨by omega, by omega⟩
          refine wpAnyZ_take (i := 10) (oi := { dst := some 60, op := _, type := _, pos := _, after := _, guard := _ }) (v := ?_) rfl (by kernel_rfl) (by kernel_rfl) (by kernel_rfl) (by kernel_rfl) (fun _ _ _ h => h) (Or.inl ⟨by rfl, ?_⟩) hS ?_
          rotate_left
          focus ((intro w hSw; (try dsimp only at hSw); obtain ⟨f, e0⟩ := hSw; have d0 := HSC.out w (HFB.out.trans f); have d1 := (HXY.out w f).1; have d2 := (HXY.out w f).2; go_simp); (try with_reducible rfl))
          (try simp only [Act.put, List.setIfInBounds_toArray, List.set_cons_zero, List.set_cons_succ])
          refine wpAnyZ_all (rs := [18]) (by kernel_rfl) (by simp) (fun i hi => ?_)
          simp only [List.mem_cons, List.not_mem_nil, or_false] at hi
          subst hi
          refine stepZ (o := { dst := some 68, op := _, type := _, pos := _, after := _, guard := _ }) rfl (fun K hK => ?_)
          go_simp
          refine (valueP ty g A n c bs we HCC.out HP.out).mono ?_
          rintro e wf ⟨vt, vi, vs, rfl, hv, hp, hf, h11⟩
          have HFV := Lib.hid (show FitV ty (vt, vi, vs) from ⟨hv.imp (fun h => by obtain ⟨rfl, rfl, rfl⟩ := h; rfl) id, h11⟩)
          clear h11
          have HP := Lib.hid hp
          have HBL := Lib.hid (hf.blk HBL.out (by have := HLB.out; omega))
          have HOWN := Lib.hid (hf.own (by have := HLB.out; omega) HOWN.out)
          have hS : (fun W : World => Far2 g g5 wb W ∧ W.cell? ⟨g5, 1, none⟩ = some (.slice T tn tc)) wf := ⟨hS.1.far hf, HBL.out.cell 1 _ rfl⟩
          refine hK _ _ hS ?_
          clear hK hp hf hv
          (try simp only [Act.put, List.setIfInBounds_toArray, List.set_cons_zero, List.set_cons_succ])
          refine wpAnyZ_all (rs := [20]) (by kernel_rfl) (by simp) (fun i hi => ?_)
          simp only [List.mem_cons, List.not_mem_nil, or_false] at hi
          subst hi
          refine stepZ (o := { dst := some 70, op := _, type := _, pos := _, after := _, guard := _ }) rfl (fun K hK => ?_)
          go_simp
          refine (num_any 3 g A n c bs wf (by omega) HCC.out HP.out).mono ?_
          rintro e wg ⟨r3, hr3, rfl, hp, hf⟩
          have HP := Lib.hid hp
          have HBL := Lib.hid (hf.blk HBL.out (by have := HLB.out; omega))
          have HOWN := Lib.hid (hf.own (by have := HLB.out; omega) HOWN.out)
          have hS : (fun W : World => Far2 g g5 wb W ∧ W.cell? ⟨g5, 1, none⟩ = some (.slice T tn tc)) wg := ⟨hS.1.far hf, HBL.out.cell 1 _ rfl⟩
          refine hK _ _ hS ?_
          clear hK hp hf
          (try simp only [Act.put, List.setIfInBounds_toArray, List.set_cons_zero, List.set_cons_succ])
          obtain ⟨bo, hbo⟩ : ∃ b, ((r3 : Int) == 0) = b := ⟨_, rfl⟩
          refine wpAnyZ_take (i := 21) (oi := { dst := some 71, op := _, type := _, pos := _, after := _, guard := _ }) (v := ?_) rfl (by kernel_rfl) (by kernel_rfl) (by kernel_rfl) (by kernel_rfl) (fun _ _ _ h => h) (Or.inl ⟨by rfl, ?_⟩) hS ?_
          rotate_left
          focus ((intro w hSw; (try dsimp only at hSw); obtain ⟨f, e0⟩ := hSw; have d0 := HSC.out w (HFB.out.trans f); have d1 := (HXY.out w f).1; have d2 := (HXY.out w f).2; go_simp); (try with_reducible rfl))
          (try simp only [Act.put, List.setIfInBounds_toArray, List.set_cons_zero, List.set_cons_succ])
          refine wpAnyZ_all (rs := [23]) (by kernel_rfl) (by simp) (fun i hi => ?_)
          simp only [List.mem_cons, List.not_mem_nil, or_false] at hi
          subst hi
          refine stepZ (o := { dst := some 73, op := _, type := _, pos := _, after := _, guard := _ }) rfl (fun K hK => ?_)
          go_simp
          refine (num_any 4 g A n c bs wg (by omega) HCC.out HP.out).mono ?_
          rintro e wh ⟨rn, hrn, rfl, hp, hf⟩
          have HP := Lib.hid hp
          have HBL := Lib.hid (hf.blk HBL.out (by have := HLB.out; omega))
          have HOWN := Lib.hid (hf.own (by have := HLB.out; omega) HOWN.out)
          have hS : (fun W : World => Far2 g g5 wb W ∧ W.cell? ⟨g5, 1, none⟩ = some (.slice T tn tc)) wh := ⟨hS.1.far hf, HBL.out.cell 1 _ rfl⟩
          refine hK _ _ hS ?_
          clear hK hp hf
          (try simp only [Act.put, List.setIfInBounds_toArray, List.set_cons_zero, List.set_cons_succ])
          obtain ⟨bn, hbn⟩ : ∃ b, ((rn : Int) == 0) = b := ⟨_, rfl⟩
          refine wpAnyZ_take (i := 24) (oi := { dst := some 74, op := _, type := _, pos := _, after := _, guard := _ }) (v := ?_) rfl (by kernel_rfl) (by kernel_rfl) (by kernel_rfl) (by kernel_rfl) (fun _ _ _ h => h) (Or.inl ⟨by rfl, ?_⟩) hS ?_
          rotate_left
          focus ((intro w hSw; (try dsimp only at hSw); obtain ⟨f, e0⟩ := hSw; have d0 := HSC.out w (HFB.out.trans f); have d1 := (HXY.out w f).1; have d2 := (HXY.out w f).2; go_simp); (try with_reducible rfl))
          (try simp only [Act.put, List.setIfInBounds_toArray, List.set_cons_zero, List.set_cons_succ])
          refine wpAnyZ_take (i := 25) (oi := { dst := some 75, op := _, type := _, pos := _, after := _, guard := _ }) (v := ?_) rfl (by kernel_rfl) (by kernel_rfl) (by kernel_rfl) (by kernel_rfl) (fun _ _ _ h => h) (Or.inl ⟨by rfl, ?_⟩) hS ?_
          rotate_left
          focus ((intro w hSw; (try dsimp only at hSw); obtain ⟨f, e0⟩ := hSw; have d0 := HSC.out w (HFB.out.trans f); have d1 := (HXY.out w f).1; have d2 := (HXY.out w f).2; go_simp); (try with_reducible rfl))
          (try simp only [Act.put, List.setIfInBounds_toArray, List.set_cons_zero, List.set_cons_succ])
          refine wpAnyZ_all (rs := [26]) (by kernel_rfl) (by simp) (fun i hi => ?_)
          simp only [List.mem_cons, List.not_mem_nil, or_false] at hi
          subst hi
          clear hbo hbn
          refine stepZ (o := { dst := some 76, op := _, type := _, pos := _, after := _, guard := _ }) rfl (fun K hK => ?_)
          go_simp
          obtain ⟨gl, hgl⟩ : ∃ x, (wh).heap.size = x := ⟨_, rfl⟩
          obtain ⟨wl, hwl⟩ : ∃ x, (wh).alloc (.cells #[.string nm, .int .i64 (1 + (r8 : Int)), .int .i64 vt, .int .i64 vi, .string vs, .bool bo, .bool bn] 28) = x := ⟨_, rfl⟩
          have ll : Later wh wl := hwl ▸ Later.new _ _
          have hlit : Has wl (some ⟨gl, 0, none⟩) [.string nm, .int .i64 (1 + (r8 : Int)), .int .i64 vt, .int .i64 vi, .string vs, .bool bo, .bool bn] := hwl ▸ (Blk.new wh [.string nm, .int .i64 (1 + (r8 : Int)), .int .i64 vt, .int .i64 vi, .string vs, .bool bo, .bool bn].toArray 28 gl hgl.symm).has
          try rw [hgl]
          rw [hwl]
          have HP := Lib.hid (HP.out.later ll)
          have HBL := Lib.hid (HBL.out.later ll)
          have HOWN := Lib.hid (own_later HOWN.out ll)
          have hS : (fun W : World => Far2 g g5 wb W ∧ W.cell? ⟨g5, 1, none⟩ = some (.slice T tn tc)) wl := ⟨hS.1.later ll, (HBL.out.cell 1 _ rfl)⟩
          refine hK _ _ hS ?_
          clear hK hwl ll hgl
          (try simp only [Act.put, List.setIfInBounds_toArray, List.set_cons_zero, List.set_cons_succ])
          refine wpAnyZ_all (rs := [27]) (by kernel_rfl) (by simp) (fun i hi => ?_)
          simp only [List.mem_cons, List.not_mem_nil, or_false] at hi
          subst hi
          refine stepZ (o := { dst := some 77, op := _, type := _, pos := _, after := _, guard := _ }) rfl (fun K hK => ?_)
          refine step_append_x rfl (.tmp 51) (.tmp 76) 23 rfl wb.heap.size 28 _ 7 64 Tryd.underlying23 info_t rfl (by decide) _ tn (ft l) rfl HOWN.out gl 0 1 1 (ft [⟨nm, 1 + (r8 : Int), (vt, vi, vs), bo, bn⟩]) rfl hlit rfl (ft_one _) (by unfold maxLen; omega) (by omega) hS.1.size ?_
          rintro C' cc' wq ho hgr hbl hat hnl
          have hb5 := (hbl.block g5 HLB.out.2 : wq.heap[g5]? = wl.heap[g5]?)
          have B5 : Blk wq g5 #[.slice C cn cc, .slice T tn tc, .slice none 0 0, .slice none 0 0, .int .i64 z] 45 := hb5.trans HBL.out
          have hS : (fun W : World => Far2 g g5 wb W ∧ W.cell? ⟨g5, 1, none⟩ = some (.slice T tn tc)) wq := ⟨hS.1.grown hbl, B5.cell 1 _ rfl⟩
          refine hK _ _ hS ?_
          have HO := Lib.hid ho
          have HPQ := Lib.hid (HP.out.below hbl (by have := HLB.out; omega))
          clear hK hlit ho hbl hb5
          (try simp only [Act.put, List.setIfInBounds_toArray, List.set_cons_zero, List.set_cons_succ])
          refine wpAnyZ_take (i := 28) (oi := { dst := some 78, op := _, type := _, pos := _, after := _, guard := _ }) (v := ?_) rfl (by kernel_rfl) (by kernel_rfl) (by kernel_rfl) (by kernel_rfl) (fun _ _ _ h => h) (Or.inl ⟨by rfl, ?_⟩) hS ?_
          rotate_left
          focus ((intro w hSw; (try dsimp only at hSw); obtain ⟨f, e0⟩ := hSw; have d0 := HSC.out w (HFB.out.trans f); have d1 := (HXY.out w f).1; have d2 := (HXY.out w f).2; go_simp); (try with_reducible rfl))
          (try simp only [Act.put, List.setIfInBounds_toArray, List.set_cons_zero, List.set_cons_succ])
          refine wpAnyZ_all (rs := [29]) (by kernel_rfl) (by simp) (fun i hi => ?_)
          simp only [List.mem_cons, List.not_mem_nil, or_false] at hi
          subst hi
          refine stepZl (o := { dst := none, op := _, type := _, pos := _, after := _, guard := _ }) rfl (fun K hK => ?_)
          have e0 := B5.cell 1 _ rfl
          have y0 := B5.frozen 1
          have B6 := B5.set_ 1 (.slice C' (tn + 1) cc')
          have F6 := hS.1.set_ 1 (.slice C' (tn + 1) cc')
          have P6 := HPQ.out.far (p := ⟨g5, 1, none⟩) HLB.out.1 (.slice C' (tn + 1) cc')
          have O6 := own_block (w' := wq.setCell ⟨g5, 1, none⟩ (.slice C' (tn + 1) cc')) HO.out fun q hq => Below.heap_setCell wq ⟨g5, 1, none⟩ _ q (by have := (own_at HO.out hq).1; have := HLB.out; show q ≠ g5; omega)
          obtain ⟨wz, hwz⟩ : ∃ x, wq.setCell ⟨g5, 1, none⟩ (.slice C' (tn + 1) cc') = x := ⟨_, rfl⟩
          rw [hwz] at B6 F6 P6 O6
          have HNEW := Lib.hid (show ∀ y : Int, y = ((k - 1 : Nat) : Int) → Q2 xs g A n c bs z g5 (.slice C cn cc) wb (.int .i64 y) wz from fun y hy => Q2.mk y (k - 1) (l ++ [⟨nm, 1 + (r8 : Int), (vt, vi, vs), bo, bn⟩]) C' (tn + 1) cc' hy (by omega) (by rw [List.length_append, ← HTN.out]; rfl) (by intro s hs; rcases List.mem_append.1 hs with h | h; exact HFT.out s h; rw [List.mem_singleton] at h; subst h; exact ⟨⟨_, HMEM.out, rfl, HFV.out⟩, by show 1 ≤ 1 + (r8 : Int); omega, by show 1 + (r8 : Int) ≤ 8; omega⟩) F6 P6 B6 (by rw [ft_append]; exact O6) hnl)
          clear B6 F6 P6 O6 hgr hat
          go_simp
          refine hK _ _ ?_
          clear hK e0 y0 B5 hS hwz
          (try simp only [Act.put, List.setIfInBounds_toArray, List.set_cons_zero, List.set_cons_succ])
          refine wpAnyZ_done (by kernel_rfl) ?_ _
          have hdec : (k : Int) - 1 = ((k - 1 : Nat) : Int) := by omega
          have hwk : IntKind.i64.wrap ((k - 1 : Nat) : Int) = ((k - 1 : Nat) : Int) := IntWalk.i64_in _ ⟨by omega, by omega⟩
          go_wp2_with fail
          go_roundw
          all_goals first
            | exact HNEW.out _ (by omega)
            | exact HNEW.out _ rfl
            | (simp [intOf]; done)
            | (simp [intOf]; omega)
        · have hk0' : k = 0 := by omega
          subst hk0'
          have HTN := Lib.hid (show tn = l.length ∧ tn ≤ 3 from ⟨HTN.out, by omega⟩)
          go_wp2_with fail
          have HC := Lib.hid (f4.own (by have := HL3.out; omega) HOWNC.out)
          have HT := Lib.hid HOWN.out
          have FW := Lib.hid (HFB.out.trans f4)
          have HB5 := Lib.hid HBL.out
          clear f4 HOWN HOWNC HBL
          refine (num_any 3 g A n c bs wr (by omega) HCC.out HP.out).mono ?_
          rintro e wc ⟨ra, hra, rfl, hp, hf⟩
          have HP := Lib.hid hp
          have FW := Lib.hid (FW.out.far hf)
          have HB5 := Lib.hid (hf.blk HB5.out (by have := HL3.out; omega))
          have HC := Lib.hid (hf.own (by have := HL3.out; have := HL3.out; omega) HC.out)
          have HT := Lib.hid (hf.own (by have := HL3.out; have := HLB.out; omega) HT.out)
          clear hp hf
          by_cases hra0 : ra = 0
          · subst hra0
            go_wp2_with fail
            refine (num_any 2 g A n c bs wc (by omega) HCC.out HP.out).mono ?_
            rintro e wd ⟨rb, hrb, rfl, hp, hf⟩
            have HP := Lib.hid hp
            have FW := Lib.hid (FW.out.far hf)
            have HB5 := Lib.hid (hf.blk HB5.out (by have := HL3.out; omega))
            have HC := Lib.hid (hf.own (by have := HL3.out; have := HL3.out; omega) HC.out)
            have HT := Lib.hid (hf.own (by have := HL3.out; have := HLB.out; omega) HT.out)
            clear hp hf
            have hwb1 : IntKind.i64.wrap (1 + (rb : Int)) = 1 + (rb : Int) := IntWalk.i64_in _ ⟨by omega, by omega⟩
            have HCD := Lib.hid HC.out
            have HTD := Lib.hid HT.out
            have HFWD := Lib.hid FW.out
            have HW3D := Lib.hid (show w3.heap.size ≤ wd.heap.size from FW.out.size)
            have HLD := Lib.hid (show g < g5 ∧ g5 < wd.heap.size from ⟨HL3.out.1, HB5.out.lt⟩)
            have HK0 := Lib.hid (Q3.mk (xs := xs) (g := g) (A := A) (n := n) (c := c) (bs := bs) (z := z) (g5 := g5) (cv := .slice C cn cc) (tv := .slice T tn tc) (w0 := wd) (wr := wd) (1 + (rb : Int)) (1 + rb) [] none 0 0 (by omega) (by omega) rfl (fun s hs => by cases hs) (Far2.refl HLD.out) HP.out HB5.out (ownG_nil _ _ _ _) (fun _ => rfl))
            clear HB5 HP
            go_wp2_with fail
            go_loopw [9] (fun iv wr => Q3 xs g A n c bs z g5 (.slice C cn cc) (.slice T tn tc) wd iv wr) (fun i _ => (intOf i).toNat)
            case atStart => exact HK0.out
            case round =>
              obtain ⟨k, ag, G, gn, gc, rfl, hk, hgn, hfa, f5, hpk, hbl, hown, hgc⟩ := hrel
              have HFA := Lib.hid hfa
              have HGN := Lib.hid hgn
              have HGNIL := Lib.hid hgc
              have HP := Lib.hid hpk
              have HBL := Lib.hid hbl
              have HOWN := Lib.hid hown
              clear HK0 hfa hgc hpk hgn hbl hown
              by_cases hk0 : 0 < k
              · have hkk : (0 : Int) < (k : Int) := by omega
                have hS : (fun W : World => Far2 g g5 wd W ∧ W.cell? ⟨g5, 2, none⟩ = some (.slice G gn gc)) wr := ⟨f5, HBL.out.cell 2 _ rfl⟩
                clear f5
                go_wp2_with fail
                refine wp_region_Z (S := (fun W : World => Far2 g g5 wd W ∧ W.cell? ⟨g5, 2, none⟩ = some (.slice G gn gc))) 19 (by kernel_rfl) ?_
                have hS : (fun W : World => Far2 g g5 wd W ∧ W.cell? ⟨g5, 2, none⟩ = some (.slice G gn gc)) (wr).drew := ⟨hS.1.later (Later.refl _).drew, hS.2⟩
                have HP := Lib.hid (HP.out.later (Later.refl _).drew)
                have HBL := Lib.hid (HBL.out.later (Later.refl _).drew)
                have HOWN := Lib.hid (own_later HOWN.out (Later.refl _).drew)
                obtain ⟨wd_, hwd⟩ : ∃ x, (wr).drew = x := ⟨_, rfl⟩
                rw [hwd] at hS HP HBL HOWN ⊢
                clear hwd
                refine wpAnyZ_take (i := 0) (oi := { dst := some 89, op := _, type := _, pos := _, after := _, guard := _ }) (v := ?_) rfl (by kernel_rfl) (by kernel_rfl) (by kernel_rfl) (by kernel_rfl) (fun _ _ _ h => h) (Or.inl ⟨by rfl, ?_⟩) hS ?_
                rotate_left
                focus ((intro w hSw; (try dsimp only at hSw); obtain ⟨f, e0⟩ := hSw; have d0 := HSC.out w (FW.out.trans f); go_simp); (try with_reducible rfl))
                (try simp only [Act.put, List.setIfInBounds_toArray, List.set_cons_zero, List.set_cons_succ])
                refine wpAnyZ_take (i := 1) (oi := { dst := some 90, op := _, type := _, pos := _, after := _, guard := _ }) (v := ?_) rfl (by kernel_rfl) (by kernel_rfl) (by kernel_rfl) (by kernel_rfl) (fun _ _ _ h => h) (Or.inl ⟨by rfl, ?_⟩) hS ?_
                rotate_left
                focus ((intro w hSw; (try dsimp only at hSw); obtain ⟨f, e0⟩ := hSw; have d0 := HSC.out w (FW.out.trans f); go_simp); (try with_reducible rfl))
                (try simp only [Act.put, List.setIfInBounds_toArray, List.set_cons_zero, List.set_cons_succ])
                refine wpAnyZ_take (i := 2) (oi := { dst := some 91, op := _, type := _, pos := _, after := _, guard := _ }) (v := ?_) rfl (by kernel_rfl) (by kernel_rfl) (by kernel_rfl) (by kernel_rfl) (fun _ _ _ h => h) (Or.inl ⟨by rfl, ?_⟩) hS ?_
                rotate_left
                focus ((intro w hSw; (try dsimp only at hSw); obtain ⟨f, e0⟩ := hSw; have d0 := HSC.out w (FW.out.trans f); go_simp); (try with_reducible rfl))
                (try simp only [Act.put, List.setIfInBounds_toArray, List.set_cons_zero, List.set_cons_succ])
                refine wpAnyZ_take (i := 5) (oi := { dst := some 94, op := _, type := _, pos := _, after := _, guard := _ }) (v := ?_) rfl (by kernel_rfl) (by kernel_rfl) (by kernel_rfl) (by kernel_rfl) (fun _ _ _ h => h) (Or.inl ⟨by rfl, ?_⟩) hS ?_
                rotate_left
                focus ((intro w hSw; (try dsimp only at hSw); obtain ⟨f, e0⟩ := hSw; have d0 := HSC.out w (FW.out.trans f); go_simp); (try with_reducible rfl))
                (try simp only [Act.put, List.setIfInBounds_toArray, List.set_cons_zero, List.set_cons_succ])
                refine wpAnyZ_take (i := 6) (oi := { dst := some 95, op := _, type := _, pos := _, after := _, guard := _ }) (v := ?_) rfl (by kernel_rfl) (by kernel_rfl) (by kernel_rfl) (by kernel_rfl) (fun _ _ _ h => h) (Or.inl ⟨by rfl, ?_⟩) hS ?_
                rotate_left
                focus ((intro w hSw; (try dsimp only at hSw); obtain ⟨f, e0⟩ := hSw; have d0 := HSC.out w (FW.out.trans f); go_simp); (try with_reducible rfl))
                (try simp only [Act.put, List.setIfInBounds_toArray, List.set_cons_zero, List.set_cons_succ])
                refine wpAnyZ_take (i := 7) (oi := { dst := some 96, op := _, type := _, pos := _, after := _, guard := _ }) (v := ?_) rfl (by kernel_rfl) (by kernel_rfl) (by kernel_rfl) (by kernel_rfl) (fun _ _ _ h => h) (Or.inl ⟨by rfl, ?_⟩) hS ?_
                rotate_left
                focus ((intro w hSw; (try dsimp only at hSw); obtain ⟨f, e0⟩ := hSw; have d0 := HSC.out w (FW.out.trans f); go_simp); (try with_reducible rfl))
                (try simp only [Act.put, List.setIfInBounds_toArray, List.set_cons_zero, List.set_cons_succ])
                refine wpAnyZ_take (i := 8) (oi := { dst := some 97, op := _, type := _, pos := _, after := _, guard := _ }) (v := ?_) rfl (by kernel_rfl) (by kernel_rfl) (by kernel_rfl) (by kernel_rfl) (fun _ _ _ h => h) (Or.inl ⟨by rfl, ?_⟩) hS ?_
                rotate_left
                focus ((intro w hSw; (try dsimp only at hSw); obtain ⟨f, e0⟩ := hSw; have d0 := HSC.out w (FW.out.trans f); go_simp); (try with_reducible rfl))
                (try simp only [Act.put, List.setIfInBounds_toArray, List.set_cons_zero, List.set_cons_succ])
                refine wpAnyZ_take (i := 9) (oi := { dst := some 98, op := _, type := _, pos := _, after := _, guard := _ }) (v := ?_) rfl (by kernel_rfl) (by kernel_rfl) (by kernel_rfl) (by kernel_rfl) (fun _ _ _ h => h) (Or.inl ⟨by rfl, ?_⟩) hS ?_
                rotate_left
                focus ((intro w hSw; (try dsimp only at hSw); obtain ⟨f, e0⟩ := hSw; have d0 := HSC.out w (FW.out.trans f); go_simp); (try with_reducible rfl))
                (try simp only [Act.put, List.setIfInBounds_toArray, List.set_cons_zero, List.set_cons_succ])
                refine wpAnyZ_take (i := 10) (oi := { dst := some 99, op := _, type := _, pos := _, after := _, guard := _ }) (v := ?_) rfl (by kernel_rfl) (by kernel_rfl) (by kernel_rfl) (by kernel_rfl) (fun _ _ _ h => h) (Or.inl ⟨by rfl, ?_⟩) hS ?_
                rotate_left
                focus ((intro w hSw; (try dsimp only at hSw); obtain ⟨f, e0⟩ := hSw; have d0 := HSC.out w (FW.out.trans f); go_simp); (try with_reducible rfl))
                (try simp only [Act.put, List.setIfInBounds_toArray, List.set_cons_zero, List.set_cons_succ])
                refine wpAnyZ_all (rs := [3]) (by kernel_rfl) (by simp) (fun i hi => ?_)
                simp only [List.mem_cons, List.not_mem_nil, or_false] at hi
                subst hi
                refine stepZ (o := { dst := some 92, op := _, type := _, pos := _, after := _, guard := _ }) rfl (fun K hK => ?_)
                go_simp
                refine (num_any 4 g A n c bs wd_ (by omega) HCC.out HP.out).mono ?_
                rintro e we ⟨rp, hrp, rfl, hp, hf⟩
                have HP := Lib.hid hp
                have HBL := Lib.hid (hf.blk HBL.out (by have := HLD.out; omega))
                have HOWN := Lib.hid (hf.own (by have := HLD.out; omega) HOWN.out)
                have hS : (fun W : World => Far2 g g5 wd W ∧ W.cell? ⟨g5, 2, none⟩ = some (.slice G gn gc)) we := ⟨hS.1.far hf, HBL.out.cell 2 _ rfl⟩
                refine hK _ _ hS ?_
                clear hK hp hf
                (try simp only [Act.put, List.setIfInBounds_toArray, List.set_cons_zero, List.set_cons_succ])
                have hwp : IntKind.i64.wrap (1 + (rp : Int)) = 1 + (rp : Int) := IntWalk.i64_in _ ⟨by omega, by omega⟩
                refine wpAnyZ_take (i := 4) (oi := { dst := some 93, op := _, type := _, pos := _, after := _, guard := _ }) (v := ?_) rfl (by kernel_rfl) (by kernel_rfl) (by kernel_rfl) (by kernel_rfl) (fun _ _ _ h => h) (Or.inl ⟨by rfl, ?_⟩) hS ?_
                rotate_left
                focus ((intro w hSw; (try dsimp only at hSw); obtain ⟨f, e0⟩ := hSw; have d0 := HSC.out w (FW.out.trans f); go_simp); (try with_reducible rfl))
                (try simp only [Act.put, List.setIfInBounds_toArray, List.set_cons_zero, List.set_cons_succ])
                refine wpAnyZ_all (rs := [11]) (by kernel_rfl) (by simp) (fun i hi => ?_)
                simp only [List.mem_cons, List.not_mem_nil, or_false] at hi
                subst hi
                refine stepZ (o := { dst := some 100, op := _, type := _, pos := _, after := _, guard := _ }) rfl (fun K hK => ?_)
                go_simp
                refine (num_any vn g A n c bs we (by omega) HCC.out HP.out).mono ?_
                rintro e wf ⟨rx, hrx, rfl, hp, hf⟩
                have HP := Lib.hid hp
                have HBL := Lib.hid (hf.blk HBL.out (by have := HLD.out; omega))
                have HOWN := Lib.hid (hf.own (by have := HLD.out; omega) HOWN.out)
                have hS : (fun W : World => Far2 g g5 wd W ∧ W.cell? ⟨g5, 2, none⟩ = some (.slice G gn gc)) wf := ⟨hS.1.far hf, HBL.out.cell 2 _ rfl⟩
                refine hK _ _ hS ?_
                clear hK hp hf
                (try simp only [Act.put, List.setIfInBounds_toArray, List.set_cons_zero, List.set_cons_succ])
                have hrx : rx < xs.length := by have := HVN.out; omega
                have HXY := Lib.hid (fun W f => (HCK.out W (FW.out.trans f) rx hrx).1 : ∀ W, Far2 g g5 wd W → W.cell? ⟨vb, voff + rx * 3 + 1, none⟩ = some (.string xs[rx].2.1))
                have HMEM := Lib.hid (List.getElem_mem hrx)
                generalize xs[rx] = x at HXY HMEM
                obtain ⟨xi, nm, ty⟩ := x
                dsimp only at HXY
                have hrxl : (rx : Int) < (vn : Int) := by omega
                have hrx0 : (0 : Int) ≤ (rx : Int) := by omega
                clear hrx
                refine wpAnyZ_take (i := 12) (oi := { dst := some 101, op := _, type := _, pos := _, after := _, guard := _ }) (v := ?_) rfl (by kernel_rfl) (by kernel_rfl) (by kernel_rfl) (by kernel_rfl) (fun _ _ _ h => h) (Or.inl ⟨by rfl, ?_⟩) hS ?_
                rotate_left
                focus ((intro w hSw; (try dsimp only at hSw); obtain ⟨f, e0⟩ := hSw; have d0 := HSC.out w (FW.out.trans f); have d1 := HXY.out w f; go_simp); (try with_reducible rfl))
                (try simp only [Act.put, List.setIfInBounds_toArray, List.set_cons_zero, List.set_cons_succ])
                refine wpAnyZ_take (i := 13) (oi := { dst := some 102, op := _, type := _, pos := _, after := _, guard := _ }) (v := ?_) rfl (by kernel_rfl) (by kernel_rfl) (by kernel_rfl) (by kernel_rfl) (fun _ _ _ h => h) (Or.inl ⟨by rfl, ?_⟩) hS ?_
                rotate_left
                focus ((intro w hSw; (try dsimp only at hSw); obtain ⟨f, e0⟩ := hSw; have d0 := HSC.out w (FW.out.trans f); have d1 := HXY.out w f; go_simp); (try with_reducible rfl))
                (try simp only [Act.put, List.setIfInBounds_toArray, List.set_cons_zero, List.set_cons_succ])
                refine wpAnyZ_take (i := 14) (oi := { dst := some 103, op := _, type := _, pos := _, after := _, guard := _ }) (v := ?_) rfl (by kernel_rfl) (by kernel_rfl) (by kernel_rfl) (by kernel_rfl) (fun _ _ _ h => h) (Or.inl ⟨by rfl, ?_⟩) hS ?_
                rotate_left
                focus ((intro w hSw; (try dsimp only at hSw); obtain ⟨f, e0⟩ := hSw; have d0 := HSC.out w (FW.out.trans f); have d1 := HXY.out w f; go_simp); (try with_reducible rfl))
                (try simp only [Act.put, List.setIfInBounds_toArray, List.set_cons_zero, List.set_cons_succ])
                refine wpAnyZ_take (i := 15) (oi := { dst := some 104, op := _, type := _, pos := _, after := _, guard := _ }) (v := ?_) rfl (by kernel_rfl) (by kernel_rfl) (by kernel_rfl) (by kernel_rfl) (fun _ _ _ h => h) (Or.inl ⟨by rfl, ?_⟩) hS ?_
                rotate_left
                focus ((intro w hSw; (try dsimp only at hSw); obtain ⟨f, e0⟩ := hSw; have d0 := HSC.out w (FW.out.trans f); have d1 := HXY.out w f; go_simp); (try with_reducible rfl))
                (try simp only [Act.put, List.setIfInBounds_toArray, List.set_cons_zero, List.set_cons_succ])
                refine wpAnyZ_all (rs := [16]) (by kernel_rfl) (by simp) (fun i hi => ?_)
                simp only [List.mem_cons, List.not_mem_nil, or_false] at hi
                subst hi
                refine stepZ (o := { dst := some 105, op := _, type := _, pos := _, after := _, guard := _ }) rfl (fun K hK => ?_)
                go_simp
                obtain ⟨gl, hgl⟩ : ∃ x, (wf).heap.size = x := ⟨_, rfl⟩
                obtain ⟨wl, hwl⟩ : ∃ x, (wf).alloc (.cells #[.int .i64 (1 + (rp : Int)), .string nm] 83) = x := ⟨_, rfl⟩
                have ll : Later wf wl := hwl ▸ Later.new _ _
                have hlit : Has wl (some ⟨gl, 0, none⟩) [.int .i64 (1 + (rp : Int)), .string nm] := hwl ▸ (Blk.new wf [.int .i64 (1 + (rp : Int)), .string nm].toArray 83 gl hgl.symm).has
                try rw [hgl]
                rw [hwl]
                have HP := Lib.hid (HP.out.later ll)
                have HBL := Lib.hid (HBL.out.later ll)
                have HOWN := Lib.hid (own_later HOWN.out ll)
                have hS : (fun W : World => Far2 g g5 wd W ∧ W.cell? ⟨g5, 2, none⟩ = some (.slice G gn gc)) wl := ⟨hS.1.later ll, (HBL.out.cell 2 _ rfl)⟩
                refine hK _ _ hS ?_
                clear hK hwl ll hgl
                (try simp only [Act.put, List.setIfInBounds_toArray, List.set_cons_zero, List.set_cons_succ])
                refine wpAnyZ_all (rs := [17]) (by kernel_rfl) (by simp) (fun i hi => ?_)
                simp only [List.mem_cons, List.not_mem_nil, or_false] at hi
                subst hi
                refine stepZ (o := { dst := some 106, op := _, type := _, pos := _, after := _, guard := _ }) rfl (fun K hK => ?_)
                refine step_append_x rfl (.tmp 90) (.tmp 105) 42 rfl wd.heap.size 83 _ 2 24 Tryd.underlying42 info_a rfl (by decide) _ gn (fa ag) rfl HOWN.out gl 0 1 1 (fa [(1 + (rp : Int), nm)]) rfl hlit rfl (by intro u hu; simp [fa] at hu; rcases hu with rfl | rfl <;> rfl) (by unfold maxLen; omega) (by omega) hS.1.size ?_
                rintro C' cc' wq ho hgr hbl hat hnl
                have hb5 := (hbl.block g5 HLD.out.2 : wq.heap[g5]? = wl.heap[g5]?)
                have B5 : Blk wq g5 #[.slice C cn cc, .slice T tn tc, .slice G gn gc, .slice none 0 0, .int .i64 z] 45 := hb5.trans HBL.out
                have hS : (fun W : World => Far2 g g5 wd W ∧ W.cell? ⟨g5, 2, none⟩ = some (.slice G gn gc)) wq := ⟨hS.1.grown hbl, B5.cell 2 _ rfl⟩
                refine hK _ _ hS ?_
                have HO := Lib.hid ho
                have HPQ := Lib.hid (HP.out.below hbl (by have := HLD.out; omega))
                clear hK hlit ho hbl hb5
                (try simp only [Act.put, List.setIfInBounds_toArray, List.set_cons_zero, List.set_cons_succ])
                refine wpAnyZ_take (i := 18) (oi := { dst := some 107, op := _, type := _, pos := _, after := _, guard := _ }) (v := ?_) rfl (by kernel_rfl) (by kernel_rfl) (by kernel_rfl) (by kernel_rfl) (fun _ _ _ h => h) (Or.inl ⟨by rfl, ?_⟩) hS ?_
                rotate_left
                focus ((intro w hSw; (try dsimp only at hSw); obtain ⟨f, e0⟩ := hSw; have d0 := HSC.out w (FW.out.trans f); have d1 := HXY.out w f; go_simp); (try with_reducible rfl))
                (try simp only [Act.put, List.setIfInBounds_toArray, List.set_cons_zero, List.set_cons_succ])
                refine wpAnyZ_all (rs := [19]) (by kernel_rfl) (by simp) (fun i hi => ?_)
                simp only [List.mem_cons, List.not_mem_nil, or_false] at hi
                subst hi
                refine stepZl (o := { dst := none, op := _, type := _, pos := _, after := _, guard := _ }) rfl (fun K hK => ?_)
                have e0 := B5.cell 2 _ rfl
                have y0 := B5.frozen 2
                have B6 := B5.set_ 2 (.slice C' (gn + 1) cc')
                have F6 := hS.1.set_ 2 (.slice C' (gn + 1) cc')
                have P6 := HPQ.out.far (p := ⟨g5, 2, none⟩) HLD.out.1 (.slice C' (gn + 1) cc')
                have O6 := own_block (w' := wq.setCell ⟨g5, 2, none⟩ (.slice C' (gn + 1) cc')) HO.out fun q hq => Below.heap_setCell wq ⟨g5, 2, none⟩ _ q (by have := (own_at HO.out hq).1; have := HLD.out; show q ≠ g5; omega)
                obtain ⟨wz, hwz⟩ : ∃ x, wq.setCell ⟨g5, 2, none⟩ (.slice C' (gn + 1) cc') = x := ⟨_, rfl⟩
                rw [hwz] at B6 F6 P6 O6
                have HNEW := Lib.hid (show ∀ y : Int, y = ((k - 1 : Nat) : Int) → Q3 xs g A n c bs z g5 (.slice C cn cc) (.slice T tn tc) wd (.int .i64 y) wz from fun y hy => Q3.mk y (k - 1) (ag ++ [(1 + (rp : Int), nm)]) C' (gn + 1) cc' hy (by omega) (by rw [List.length_append, ← HGN.out]; rfl) (by intro s hs; rcases List.mem_append.1 hs with h | h; exact HFA.out s h; rw [List.mem_singleton] at h; subst h; exact ⟨⟨by show 1 ≤ 1 + (rp : Int); omega, by show 1 + (rp : Int) ≤ 4; omega⟩, .inl ⟨_, HMEM.out, rfl⟩⟩) F6 P6 B6 (by rw [fa_append]; exact O6) hnl)
                clear B6 F6 P6 O6 hgr hat
                go_simp
                refine hK _ _ ?_
                clear hK e0 y0 B5 hS hwz
                (try simp only [Act.put, List.setIfInBounds_toArray, List.set_cons_zero, List.set_cons_succ])
                refine wpAnyZ_done (by kernel_rfl) ?_ _
                have hdec : (k : Int) - 1 = ((k - 1 : Nat) : Int) := by omega
                have hwk : IntKind.i64.wrap ((k - 1 : Nat) : Int) = ((k - 1 : Nat) : Int) := IntWalk.i64_in _ ⟨by omega, by omega⟩
                go_wp2_with fail
                go_roundw
                all_goals first
                  | exact HNEW.out _ (by omega)
                  | exact HNEW.out _ rfl
                  | (simp [intOf]; done)
                  | (simp [intOf]; omega)
              · have hk0' : k = 0 := by omega
                subst hk0'
                have HGN := Lib.hid (show gn = ag.length ∧ gn ≤ 3 from ⟨HGN.out, by omega⟩)
                have hgnb : gn ≤ 2 := by omega
                have HC := Lib.hid (f5.own (by have := HL3.out; have := FW.out.size; omega) HC.out)
                have HT := Lib.hid (f5.own (by have := HLB.out; have := FW.out.size; omega) HT.out)
                have FW := Lib.hid (FW.out.trans f5)
                have HB5 := Lib.hid HBL.out
                have HG4 := Lib.hid HOWN.out
                have HF5 := Lib.hid f5
                clear f5 HOWN HBL
                go_wp2_with fail
                refine (num_any 2 g A n c bs wr (by omega) HCC.out HP.out).mono ?_
                rintro e we ⟨rq, hrq, rfl, hp, hf⟩
                have HP := Lib.hid hp
                have FW := Lib.hid (FW.out.far hf)
                have HB5 := Lib.hid (hf.blk HB5.out (by have := HL3.out; omega))
                have HC := Lib.hid (hf.own (by have := HL3.out; have := HL3.out; omega) HC.out)
                have HT := Lib.hid (hf.own (by have := HL3.out; have := HLB.out; omega) HT.out)
                have HG4 := Lib.hid (hf.own (by have := HL3.out; have := HLD.out; omega) HG4.out)
                have hf5 := hf
                clear hp hf
                have HF5E := Lib.hid (HF5.out.far hf5)
                clear hf5
                by_cases hrq0 : rq = 0
                · subst hrq0
                  have e2 := HB5.out.cell 2 _ rfl
                  have HOA := Lib.hid (fun (o : Obj) => own_later HG4.out (Later.new we o))
                  have HBK := Lib.hid (fun (wz : World) => Blk.new wz #[.int .i64 1, .string ⟨#[]⟩] 83 wz.heap.size rfl)
                  have HSZ := Lib.hid (show wd.heap.size ≤ we.heap.size from HF5E.out.size)
                  have HPA := Lib.hid (fun (o : Obj) => HP.out.later (Later.new we o))
                  have HBA := Lib.hid (fun (o : Obj) => HB5.out.later (Later.new we o))
                  have HFA2 := Lib.hid (fun (o : Obj) => HF5E.out.later (Later.new we o))
                  clear HP HB5 HC HT
                  go_wp2_with (at_builtin; refine wpList_append_x _ rfl (.tmp 112) (.tmp 114) 42 rfl wd.heap.size 83 _ 2 24 Tryd.underlying42 info_a rfl (by decide) _ gn (fa ag) rfl (HOA.out _) _ 0 1 1 (fa [(1, ⟨#[]⟩)]) rfl (HBK.out we).has rfl (by intro u hu; simp [fa] at hu; rcases hu with rfl | rfl <;> rfl) (by unfold maxLen; omega) (by omega) (by have := HSZ.out; simp; omega) ?_; rintro G' gc' wq hO hgr hbel hat hn2; have B5 := (hbel.block g5 HLD.out.2).trans (HBA.out _); have x2 := Blk.cell (w := wq) B5 2 _ rfl; have y2 := Blk.frozen (w := wq) B5 2; have B6 := Lib.hid (Blk.set_ (w := wq) B5 2 (.slice G' (gn + 1) gc')); have F6 := Lib.hid (((HFA2.out _).grown hbel).set_ 2 (.slice G' (gn + 1) gc')); have P6 := Lib.hid (((HPA.out _).below hbel (by have := HLD.out; omega)).far (p := ⟨g5, 2, none⟩) HL3.out.1 (.slice G' (gn + 1) gc')); have O6 := Lib.hid (own_block (w' := wq.setCell ⟨g5, 2, none⟩ (.slice G' (gn + 1) gc')) hO fun q hq => Below.heap_setCell wq ⟨g5, 2, none⟩ _ q (by have := (own_at hO hq).1; have := HLD.out; show q ≠ g5; omega)); have HN2 := Lib.hid hn2; clear hO hn2 hgr hbel hat B5)
                  obtain ⟨wz, hwz⟩ : ∃ x, wq.setCell ⟨g5, 2, none⟩ (.slice G' (gn + 1) gc') = x := ⟨_, rfl⟩
                  rw [hwz] at B6 F6 P6 O6 ⊢
                  clear hwz x2 y2 e2 HOA HBK HPA HBA HFA2
                  have HP := Lib.hid P6.out
                  have HB5 := Lib.hid B6.out
                  have HC := Lib.hid (F6.out.own (by have := HL3.out; omega) HCD.out)
                  have HT := Lib.hid (F6.out.own (by have := HLB.out; omega) HTD.out)
                  have HG4 := Lib.hid (own_low (show wz.ownsRow wd.heap.size 83 2 (.slice G' (gn + 1) gc') (gn + 1) (fa (ag ++ [(1, ⟨#[]⟩)])) by rw [fa_append]; exact O6.out) HW3D.out)
                  have FW := Lib.hid (HFWD.out.trans F6.out)
                  have HAG := Lib.hid (show (gn + 1 = (ag ++ [((1 : Int), (⟨#[]⟩ : ByteArray))]).length ∧ gn + 1 ≤ 3) ∧ FitA xs (ag ++ [(1, ⟨#[]⟩)]) ∧ (G' = none → gc' = 0) from ⟨⟨by rw [List.length_append, ← HGN.out.1]; rfl, by omega⟩, (by intro s hs; rcases List.mem_append.1 hs with h | h; exact HFA.out s h; rw [List.mem_singleton] at h; subst h; exact ⟨⟨by decide, by decide⟩, .inr ⟨rfl, rfl⟩⟩), HN2.out⟩)
                  clear B6 F6 P6 O6
                  refine (num_any 3 g A n c bs wz (by omega) HCC.out HP.out).mono ?_
                  rintro e wx ⟨rx, hrx, rfl, hp, hf⟩
                  have HP := Lib.hid hp
                  have FW := Lib.hid (FW.out.far hf)
                  have HB5 := Lib.hid (hf.blk HB5.out (by have := HL3.out; omega))
                  have HC := Lib.hid (hf.own (by have := HL3.out; have := HL3.out; omega) HC.out)
                  have HT := Lib.hid (hf.own (by have := HL3.out; have := HLB.out; omega) HT.out)
                  have HG4 := Lib.hid (hf.own (by have := HL3.out; have := HL3.out; omega) HG4.out)
                  clear hp hf
                  have HLX := Lib.hid (show g < g5 ∧ g5 < wx.heap.size from ⟨HL3.out.1, HB5.out.lt⟩)
                  have HM0 := Lib.hid (Q4.mk (xs := xs) (g := g) (A := A) (n := n) (c := c) (bs := bs) (z := z) (g5 := g5) (cv := .slice C cn cc) (tv := .slice T tn tc) (gv := .slice G' (gn + 1) gc') (w0 := wx) (wr := wx) rx rx [] none 0 0 rfl (by omega) rfl (fun s hs => by cases hs) (Far2.refl HLX.out) HP.out HB5.out (ownG_nil _ _ _ _) (fun _ => rfl))
                  clear HB5 HP
                  go_wp2_with fail
                  go_loopw [10] (fun iv wr => Q4 xs g A n c bs z g5 (.slice C cn cc) (.slice T tn tc) (.slice G' (gn + 1) gc') wx iv wr) (fun i _ => (intOf i).toNat)
                  case atStart => exact HM0.out
                  case round =>
                    obtain ⟨k, ky, Kk, kn, kc, rfl, hk, hkn, hfk, f6, hpk, hbl, hown, hkc⟩ := hrel
                    have HFK := Lib.hid hfk
                    have HKN := Lib.hid hkn
                    have HKNIL := Lib.hid hkc
                    have HP := Lib.hid hpk
                    have HBL := Lib.hid hbl
                    have HOWN := Lib.hid hown
                    clear HM0 hfk hkc hpk hkn hbl hown
                    by_cases hk0 : 0 < k
                    · have hkk : (0 : Int) < (k : Int) := by omega
                      have hS : (fun W : World => Far2 g g5 wx W ∧ W.cell? ⟨g5, 3, none⟩ = some (.slice Kk kn kc)) wr := ⟨f6, HBL.out.cell 3 _ rfl⟩
                      clear f6
                      go_wp2_with fail
                      refine wp_region_Z (S := (fun W : World => Far2 g g5 wx W ∧ W.cell? ⟨g5, 3, none⟩ = some (.slice Kk kn kc))) 10 (by kernel_rfl) ?_
                      have hS : (fun W : World => Far2 g g5 wx W ∧ W.cell? ⟨g5, 3, none⟩ = some (.slice Kk kn kc)) (wr).drew := ⟨hS.1.later (Later.refl _).drew, hS.2⟩
                      have HP := Lib.hid (HP.out.later (Later.refl _).drew)
                      have HBL := Lib.hid (HBL.out.later (Later.refl _).drew)
                      have HOWN := Lib.hid (own_later HOWN.out (Later.refl _).drew)
                      obtain ⟨wd_, hwd⟩ : ∃ x, (wr).drew = x := ⟨_, rfl⟩
                      rw [hwd] at hS HP HBL HOWN ⊢
                      clear hwd
                      refine wpAnyZ_take (i := 0) (oi := { dst := some 123, op := _, type := _, pos := _, after := _, guard := _ }) (v := ?_) rfl (by kernel_rfl) (by kernel_rfl) (by kernel_rfl) (by kernel_rfl) (fun _ _ _ h => h) (Or.inl ⟨by rfl, ?_⟩) hS ?_
                      rotate_left
                      focus ((intro w hSw; (try dsimp only at hSw); obtain ⟨f, e0⟩ := hSw; have d0 := HSC.out w (FW.out.trans f); go_simp); (try with_reducible rfl))
                      (try simp only [Act.put, List.setIfInBounds_toArray, List.set_cons_zero, List.set_cons_succ])
                      refine wpAnyZ_take (i := 1) (oi := { dst := some 124, op := _, type := _, pos := _, after := _, guard := _ }) (v := ?_) rfl (by kernel_rfl) (by kernel_rfl) (by kernel_rfl) (by kernel_rfl) (fun _ _ _ h => h) (Or.inl ⟨by rfl, ?_⟩) hS ?_
                      rotate_left
                      focus ((intro w hSw; (try dsimp only at hSw); obtain ⟨f, e0⟩ := hSw; have d0 := HSC.out w (FW.out.trans f); go_simp); (try with_reducible rfl))
                      (try simp only [Act.put, List.setIfInBounds_toArray, List.set_cons_zero, List.set_cons_succ])
                      refine wpAnyZ_take (i := 2) (oi := { dst := some 125, op := _, type := _, pos := _, after := _, guard := _ }) (v := ?_) rfl (by kernel_rfl) (by kernel_rfl) (by kernel_rfl) (by kernel_rfl) (fun _ _ _ h => h) (Or.inl ⟨by rfl, ?_⟩) hS ?_
                      rotate_left
                      focus ((intro w hSw; (try dsimp only at hSw); obtain ⟨f, e0⟩ := hSw; have d0 := HSC.out w (FW.out.trans f); go_simp); (try with_reducible rfl))
                      (try simp only [Act.put, List.setIfInBounds_toArray, List.set_cons_zero, List.set_cons_succ])
                      refine wpAnyZ_take (i := 3) (oi := { dst := some 126, op := _, type := _, pos := _, after := _, guard := _ }) (v := ?_) rfl (by kernel_rfl) (by kernel_rfl) (by kernel_rfl) (by kernel_rfl) (fun _ _ _ h => h) (Or.inl ⟨by rfl, ?_⟩) hS ?_
                      rotate_left
                      focus ((intro w hSw; (try dsimp only at hSw); obtain ⟨f, e0⟩ := hSw; have d0 := HSC.out w (FW.out.trans f); go_simp); (try with_reducible rfl))
                      (try simp only [Act.put, List.setIfInBounds_toArray, List.set_cons_zero, List.set_cons_succ])
                      refine wpAnyZ_take (i := 4) (oi := { dst := some 127, op := _, type := _, pos := _, after := _, guard := _ }) (v := ?_) rfl (by kernel_rfl) (by kernel_rfl) (by kernel_rfl) (by kernel_rfl) (fun _ _ _ h => h) (Or.inl ⟨by rfl, ?_⟩) hS ?_
                      rotate_left
                      focus ((intro w hSw; (try dsimp only at hSw); obtain ⟨f, e0⟩ := hSw; have d0 := HSC.out w (FW.out.trans f); go_simp); (try with_reducible rfl))
                      (try simp only [Act.put, List.setIfInBounds_toArray, List.set_cons_zero, List.set_cons_succ])
                      refine wpAnyZ_take (i := 5) (oi := { dst := some 128, op := _, type := _, pos := _, after := _, guard := _ }) (v := ?_) rfl (by kernel_rfl) (by kernel_rfl) (by kernel_rfl) (by kernel_rfl) (fun _ _ _ h => h) (Or.inl ⟨by rfl, ?_⟩) hS ?_
                      rotate_left
                      focus ((intro w hSw; (try dsimp only at hSw); obtain ⟨f, e0⟩ := hSw; have d0 := HSC.out w (FW.out.trans f); go_simp); (try with_reducible rfl))
                      (try simp only [Act.put, List.setIfInBounds_toArray, List.set_cons_zero, List.set_cons_succ])
                      refine wpAnyZ_all (rs := [6]) (by kernel_rfl) (by simp) (fun i hi => ?_)
                      simp only [List.mem_cons, List.not_mem_nil, or_false] at hi
                      subst hi
                      refine stepZ (o := { dst := some 129, op := _, type := _, pos := _, after := _, guard := _ }) rfl (fun K hK => ?_)
                      go_simp
                      refine (num_any vn g A n c bs wd_ (by omega) HCC.out HP.out).mono ?_
                      rintro e we2 ⟨ry, hry, rfl, hp, hf⟩
                      have HP := Lib.hid hp
                      have HBL := Lib.hid (hf.blk HBL.out (by have := HLX.out; omega))
                      have HOWN := Lib.hid (hf.own (by have := HLX.out; omega) HOWN.out)
                      have hS : (fun W : World => Far2 g g5 wx W ∧ W.cell? ⟨g5, 3, none⟩ = some (.slice Kk kn kc)) we2 := ⟨hS.1.far hf, HBL.out.cell 3 _ rfl⟩
                      refine hK _ _ hS ?_
                      clear hK hp hf
                      (try simp only [Act.put, List.setIfInBounds_toArray, List.set_cons_zero, List.set_cons_succ])
                      have hrx : ry < xs.length := by have := HVN.out; omega
                      have HXY := Lib.hid (fun W f => (HCK.out W (FW.out.trans f) ry hrx).1 : ∀ W, Far2 g g5 wx W → W.cell? ⟨vb, voff + ry * 3 + 1, none⟩ = some (.string xs[ry].2.1))
                      have HMEM := Lib.hid (List.getElem_mem hrx)
                      generalize xs[ry] = x at HXY HMEM
                      obtain ⟨xi, nm, ty⟩ := x
                      dsimp only at HXY
                      have hrxl : (ry : Int) < (vn : Int) := by omega
                      have hrx0 : (0 : Int) ≤ (ry : Int) := by omega
                      clear hrx
                      refine wpAnyZ_take (i := 7) (oi := { dst := some 130, op := _, type := _, pos := _, after := _, guard := _ }) (v := ?_) rfl (by kernel_rfl) (by kernel_rfl) (by kernel_rfl) (by kernel_rfl) (fun _ _ _ h => h) (Or.inl ⟨by rfl, ?_⟩) hS ?_
                      rotate_left
                      focus ((intro w hSw; (try dsimp only at hSw); obtain ⟨f, e0⟩ := hSw; have d0 := HSC.out w (FW.out.trans f); have d1 := HXY.out w f; go_simp); (try with_reducible rfl))
                      (try simp only [Act.put, List.setIfInBounds_toArray, List.set_cons_zero, List.set_cons_succ])
                      refine wpAnyZ_take (i := 8) (oi := { dst := some 131, op := _, type := _, pos := _, after := _, guard := _ }) (v := ?_) rfl (by kernel_rfl) (by kernel_rfl) (by kernel_rfl) (by kernel_rfl) (fun _ _ _ h => h) (Or.inl ⟨by rfl, ?_⟩) hS ?_
                      rotate_left
                      focus ((intro w hSw; (try dsimp only at hSw); obtain ⟨f, e0⟩ := hSw; have d0 := HSC.out w (FW.out.trans f); have d1 := HXY.out w f; go_simp); (try with_reducible rfl))
                      (try simp only [Act.put, List.setIfInBounds_toArray, List.set_cons_zero, List.set_cons_succ])
                      refine wpAnyZ_take (i := 9) (oi := { dst := some 132, op := _, type := _, pos := _, after := _, guard := _ }) (v := ?_) rfl (by kernel_rfl) (by kernel_rfl) (by kernel_rfl) (by kernel_rfl) (fun _ _ _ h => h) (Or.inl ⟨by rfl, ?_⟩) hS ?_
                      rotate_left
                      focus ((intro w hSw; (try dsimp only at hSw); obtain ⟨f, e0⟩ := hSw; have d0 := HSC.out w (FW.out.trans f); have d1 := HXY.out w f; go_simp); (try with_reducible rfl))
                      (try simp only [Act.put, List.setIfInBounds_toArray, List.set_cons_zero, List.set_cons_succ])
                      refine wpAnyZ_all (rs := [10]) (by kernel_rfl) (by simp) (fun i hi => ?_)
                      simp only [List.mem_cons, List.not_mem_nil, or_false] at hi
                      subst hi
                      refine stepZl (o := { dst := some 11, op := _, type := _, pos := _, after := _, guard := _ }) rfl (fun K hK => ?_)
                      go_simp
                      refine hK _ _ ?_
                      clear hK
                      (try simp only [Act.put, List.setIfInBounds_toArray, List.set_cons_zero, List.set_cons_succ])
                      refine wpAnyZ_done (by kernel_rfl) ?_ _
                      have e0 := HBL.out.cell 0 _ rfl
                      have e2 := HBL.out.cell 2 _ rfl
                      have HNAME := Lib.hid (show ∃ c ∈ xs, nm = c.2.1 from ⟨_, HMEM.out, rfl⟩)
                      by_cases hgz : 0 < gn + 1
                      · have hgt : (0 : Int) < ((gn + 1 : Nat) : Int) := by omega
                        by_cases hcz : 0 < cn
                        · have hct : (0 : Int) < (cn : Int) := by omega
                          go_wp2_with fail
                          clear e0 e2
                          have hS3 := hS
                          have hS : (fun W : World => Far2 g g5 wx W ∧ W.cell? ⟨g5, 0, none⟩ = some (.slice C cn cc)) we2 := ⟨hS.1, HBL.out.cell 0 _ rfl⟩
                          clear hS3
                          refine wp_region_Z (S := (fun W : World => Far2 g g5 wx W ∧ W.cell? ⟨g5, 0, none⟩ = some (.slice C cn cc))) 9 (by kernel_rfl) ?_
                          have hS : (fun W : World => Far2 g g5 wx W ∧ W.cell? ⟨g5, 0, none⟩ = some (.slice C cn cc)) (we2).drew := ⟨hS.1.later (Later.refl _).drew, hS.2⟩
                          have HP := Lib.hid (HP.out.later (Later.refl _).drew)
                          have HBL := Lib.hid (HBL.out.later (Later.refl _).drew)
                          have HOWN := Lib.hid (own_later HOWN.out (Later.refl _).drew)
                          obtain ⟨wd_, hwd⟩ : ∃ x, (we2).drew = x := ⟨_, rfl⟩
                          rw [hwd] at hS HP HBL HOWN ⊢
                          clear hwd
                          refine wpAnyZ_take (i := 0) (oi := { dst := some 143, op := _, type := _, pos := _, after := _, guard := _ }) (v := ?_) rfl (by kernel_rfl) (by kernel_rfl) (by kernel_rfl) (by kernel_rfl) (fun _ _ _ h => h) (Or.inl ⟨by rfl, ?_⟩) hS ?_
                          rotate_left
                          focus ((intro w hSw; (try dsimp only at hSw); obtain ⟨f, d0⟩ := hSw; go_simp); (try with_reducible rfl))
                          (try simp only [Act.put, List.setIfInBounds_toArray, List.set_cons_zero, List.set_cons_succ])
                          refine wpAnyZ_take (i := 1) (oi := { dst := some 144, op := _, type := _, pos := _, after := _, guard := _ }) (v := ?_) rfl (by kernel_rfl) (by kernel_rfl) (by kernel_rfl) (by kernel_rfl) (fun _ _ _ h => h) (Or.inl ⟨by rfl, ?_⟩) hS ?_
                          rotate_left
                          focus ((intro w hSw; (try dsimp only at hSw); obtain ⟨f, d0⟩ := hSw; go_simp); (try with_reducible rfl))
                          (try simp only [Act.put, List.setIfInBounds_toArray, List.set_cons_zero, List.set_cons_succ])
                          refine wpAnyZ_take (i := 2) (oi := { dst := some 145, op := _, type := _, pos := _, after := _, guard := _ }) (v := ?_) rfl (by kernel_rfl) (by kernel_rfl) (by kernel_rfl) (by kernel_rfl) (fun _ _ _ h => h) (Or.inl ⟨by rfl, ?_⟩) hS ?_
                          rotate_left
                          focus ((intro w hSw; (try dsimp only at hSw); obtain ⟨f, d0⟩ := hSw; go_simp); (try with_reducible rfl))
                          (try simp only [Act.put, List.setIfInBounds_toArray, List.set_cons_zero, List.set_cons_succ])
                          refine wpAnyZ_take (i := 3) (oi := { dst := some 146, op := _, type := _, pos := _, after := _, guard := _ }) (v := ?_) rfl (by kernel_rfl) (by kernel_rfl) (by kernel_rfl) (by kernel_rfl) (fun _ _ _ h => h) (Or.inl ⟨by rfl, ?_⟩) hS ?_
                          rotate_left
                          focus ((intro w hSw; (try dsimp only at hSw); obtain ⟨f, d0⟩ := hSw; go_simp); (try with_reducible rfl))
                          (try simp only [Act.put, List.setIfInBounds_toArray, List.set_cons_zero, List.set_cons_succ])
                          refine wpAnyZ_take (i := 4) (oi := { dst := some 147, op := _, type := _, pos := _, after := _, guard := _ }) (v := ?_) rfl (by kernel_rfl) (by kernel_rfl) (by kernel_rfl) (by kernel_rfl) (fun _ _ _ h => h) (Or.inl ⟨by rfl, ?_⟩) hS ?_
                          rotate_left
                          focus ((intro w hSw; (try dsimp only at hSw); obtain ⟨f, d0⟩ := hSw; go_simp); (try with_reducible rfl))
                          (try simp only [Act.put, List.setIfInBounds_toArray, List.set_cons_zero, List.set_cons_succ])
                          refine wpAnyZ_take (i := 5) (oi := { dst := some 148, op := _, type := _, pos := _, after := _, guard := _ }) (v := ?_) rfl (by kernel_rfl) (by kernel_rfl) (by kernel_rfl) (by kernel_rfl) (fun _ _ _ h => h) (Or.inl ⟨by rfl, ?_⟩) hS ?_
                          rotate_left
                          focus ((intro w hSw; (try dsimp only at hSw); obtain ⟨f, d0⟩ := hSw; go_simp); (try with_reducible rfl))
                          (try simp only [Act.put, List.setIfInBounds_toArray, List.set_cons_zero, List.set_cons_succ])
                          refine wpAnyZ_all (rs := [6]) (by kernel_rfl) (by simp) (fun i hi => ?_)
                          simp only [List.mem_cons, List.not_mem_nil, or_false] at hi
                          subst hi
                          refine stepZ (o := { dst := some 149, op := _, type := _, pos := _, after := _, guard := _ }) rfl (fun K hK => ?_)
                          go_simp
                          refine (num_any cn g A n c bs wd_ (by omega) HCC.out HP.out).mono ?_
                          rintro e we3 ⟨rz, hrz, rfl, hp, hf⟩
                          have HP := Lib.hid hp
                          have HBL := Lib.hid (hf.blk HBL.out (by have := HLX.out; omega))
                          have HOWN := Lib.hid (hf.own (by have := HLX.out; omega) HOWN.out)
                          have hS : (fun W : World => Far2 g g5 wx W ∧ W.cell? ⟨g5, 0, none⟩ = some (.slice C cn cc)) we3 := ⟨hS.1.far hf, HBL.out.cell 0 _ rfl⟩
                          refine hK _ _ hS ?_
                          clear hK hp hf
                          (try simp only [Act.put, List.setIfInBounds_toArray, List.set_cons_zero, List.set_cons_succ])
                          have hrzn : rz < (ns.map Value.string).length := by rw [List.length_map]; have := HCN.out.1; omega
                          have hrzm : rz < ns.length := by have := HCN.out.1; omega
                          obtain ⟨cb, coff, hCA, _⟩ := has_at (Has.own HC.out) rz hrzn
                          have HCE := Lib.hid (fun W f => by
                            obtain ⟨b', off', hA', w1'⟩ := has_at (Has.own (Far2.own f (by have := HL3.out; omega) HC.out)) rz hrzn
                            rw [hCA] at hA'
                            injection hA' with hA'; injection hA' with e1 e2
                            subst e1 e2
                            rw [List.getElem_map] at w1'
                            exact w1' : ∀ W, Far2 g g5 wx W → W.cell? ⟨cb, coff + rz, none⟩ = some (.string ns[rz]))
                          have HNAME := Lib.hid (HNS.out _ (List.getElem_mem hrzm))
                          generalize ns[rz] = nm2 at HCE HNAME
                          subst hCA
                          have hrzl : (rz : Int) < (cn : Int) := by omega
                          have hrz0 : (0 : Int) ≤ (rz : Int) := by omega
                          refine wpAnyZ_take (i := 7) (oi := { dst := some 150, op := _, type := _, pos := _, after := _, guard := _ }) (v := ?_) rfl (by kernel_rfl) (by kernel_rfl) (by kernel_rfl) (by kernel_rfl) (fun _ _ _ h => h) (Or.inl ⟨by rfl, ?_⟩) hS ?_
                          rotate_left
                          focus ((intro w hSw; (try dsimp only at hSw); obtain ⟨f, d0⟩ := hSw; have d1 := HCE.out w f; go_simp); (try with_reducible rfl))
                          (try simp only [Act.put, List.setIfInBounds_toArray, List.set_cons_zero, List.set_cons_succ])
                          refine wpAnyZ_take (i := 8) (oi := { dst := some 151, op := _, type := _, pos := _, after := _, guard := _ }) (v := ?_) rfl (by kernel_rfl) (by kernel_rfl) (by kernel_rfl) (by kernel_rfl) (fun _ _ _ h => h) (Or.inl ⟨by rfl, ?_⟩) hS ?_
                          rotate_left
                          focus ((intro w hSw; (try dsimp only at hSw); obtain ⟨f, d0⟩ := hSw; have d1 := HCE.out w f; go_simp); (try with_reducible rfl))
                          (try simp only [Act.put, List.setIfInBounds_toArray, List.set_cons_zero, List.set_cons_succ])
                          refine wpAnyZ_all (rs := [9]) (by kernel_rfl) (by simp) (fun i hi => ?_)
                          simp only [List.mem_cons, List.not_mem_nil, or_false] at hi
                          subst hi
                          refine stepZl (o := { dst := some 11, op := _, type := _, pos := _, after := _, guard := _ }) rfl (fun K hK => ?_)
                          go_simp
                          refine hK _ _ ?_
                          clear hK HCE
                          (try simp only [Act.put, List.setIfInBounds_toArray, List.set_cons_zero, List.set_cons_succ])
                          refine wpAnyZ_done (by kernel_rfl) ?_ _
                          have hS3 := hS
                          have hS : (fun W : World => Far2 g g5 wx W ∧ W.cell? ⟨g5, 3, none⟩ = some (.slice Kk kn kc)) we3 := ⟨hS.1, HBL.out.cell 3 _ rfl⟩
                          clear hS3
                          obtain ⟨nm, hnm⟩ : ∃ x, nm2 = x := ⟨_, rfl⟩
                          rw [hnm] at HNAME ⊢
                          clear hnm
                          go_wp2_with fail
                          refine wp_region_Z (S := (fun W : World => Far2 g g5 wx W ∧ W.cell? ⟨g5, 3, none⟩ = some (.slice Kk kn kc))) 10 (by kernel_rfl) ?_
                          have hS : (fun W : World => Far2 g g5 wx W ∧ W.cell? ⟨g5, 3, none⟩ = some (.slice Kk kn kc)) (we3).drew := ⟨hS.1.later (Later.refl _).drew, hS.2⟩
                          have HP := Lib.hid (HP.out.later (Later.refl _).drew)
                          have HBL := Lib.hid (HBL.out.later (Later.refl _).drew)
                          have HOWN := Lib.hid (own_later HOWN.out (Later.refl _).drew)
                          obtain ⟨wd_, hwd⟩ : ∃ x, (we3).drew = x := ⟨_, rfl⟩
                          rw [hwd] at hS HP HBL HOWN ⊢
                          clear hwd
                          refine wpAnyZ_take (i := 0) (oi := { dst := some 152, op := _, type := _, pos := _, after := _, guard := _ }) (v := ?_) rfl (by kernel_rfl) (by kernel_rfl) (by kernel_rfl) (by kernel_rfl) (fun _ _ _ h => h) (Or.inl ⟨by rfl, ?_⟩) hS ?_
                          rotate_left
                          focus ((intro w hSw; (try dsimp only at hSw); obtain ⟨f, e0⟩ := hSw; go_simp); (try with_reducible rfl))
                          (try simp only [Act.put, List.setIfInBounds_toArray, List.set_cons_zero, List.set_cons_succ])
                          refine wpAnyZ_take (i := 1) (oi := { dst := some 153, op := _, type := _, pos := _, after := _, guard := _ }) (v := ?_) rfl (by kernel_rfl) (by kernel_rfl) (by kernel_rfl) (by kernel_rfl) (fun _ _ _ h => h) (Or.inl ⟨by rfl, ?_⟩) hS ?_
                          rotate_left
                          focus ((intro w hSw; (try dsimp only at hSw); obtain ⟨f, e0⟩ := hSw; go_simp); (try with_reducible rfl))
                          (try simp only [Act.put, List.setIfInBounds_toArray, List.set_cons_zero, List.set_cons_succ])
                          refine wpAnyZ_take (i := 2) (oi := { dst := some 154, op := _, type := _, pos := _, after := _, guard := _ }) (v := ?_) rfl (by kernel_rfl) (by kernel_rfl) (by kernel_rfl) (by kernel_rfl) (fun _ _ _ h => h) (Or.inl ⟨by rfl, ?_⟩) hS ?_
                          rotate_left
                          focus ((intro w hSw; (try dsimp only at hSw); obtain ⟨f, e0⟩ := hSw; go_simp); (try with_reducible rfl))
                          (try simp only [Act.put, List.setIfInBounds_toArray, List.set_cons_zero, List.set_cons_succ])
                          refine wpAnyZ_take (i := 3) (oi := { dst := some 155, op := _, type := _, pos := _, after := _, guard := _ }) (v := ?_) rfl (by kernel_rfl) (by kernel_rfl) (by kernel_rfl) (by kernel_rfl) (fun _ _ _ h => h) (Or.inl ⟨by rfl, ?_⟩) hS ?_
                          rotate_left
                          focus ((intro w hSw; (try dsimp only at hSw); obtain ⟨f, e0⟩ := hSw; go_simp); (try with_reducible rfl))
                          (try simp only [Act.put, List.setIfInBounds_toArray, List.set_cons_zero, List.set_cons_succ])
                          refine wpAnyZ_all (rs := [4]) (by kernel_rfl) (by simp) (fun i hi => ?_)
                          simp only [List.mem_cons, List.not_mem_nil, or_false] at hi
                          subst hi
                          refine stepZ (o := { dst := some 156, op := _, type := _, pos := _, after := _, guard := _ }) rfl (fun K hK => ?_)
                          go_simp
                          refine (num_any 2 g A n c bs wd_ (by omega) HCC.out HP.out).mono ?_
                          rintro e we4 ⟨rd, hrd, rfl, hp, hf⟩
                          have HP := Lib.hid hp
                          have HBL := Lib.hid (hf.blk HBL.out (by have := HLX.out; omega))
                          have HOWN := Lib.hid (hf.own (by have := HLX.out; omega) HOWN.out)
                          have hS : (fun W : World => Far2 g g5 wx W ∧ W.cell? ⟨g5, 3, none⟩ = some (.slice Kk kn kc)) we4 := ⟨hS.1.far hf, HBL.out.cell 3 _ rfl⟩
                          refine hK _ _ hS ?_
                          clear hK hp hf
                          (try simp only [Act.put, List.setIfInBounds_toArray, List.set_cons_zero, List.set_cons_succ])
                          obtain ⟨bd, hbd⟩ : ∃ b, ((rd : Int) == 0) = b := ⟨_, rfl⟩
                          refine wpAnyZ_take (i := 5) (oi := { dst := some 157, op := _, type := _, pos := _, after := _, guard := _ }) (v := ?_) rfl (by kernel_rfl) (by kernel_rfl) (by kernel_rfl) (by kernel_rfl) (fun _ _ _ h => h) (Or.inl ⟨by rfl, ?_⟩) hS ?_
                          rotate_left
                          focus ((intro w hSw; (try dsimp only at hSw); obtain ⟨f, e0⟩ := hSw; go_simp); (try with_reducible rfl))
                          (try simp only [Act.put, List.setIfInBounds_toArray, List.set_cons_zero, List.set_cons_succ])
                          refine wpAnyZ_take (i := 6) (oi := { dst := some 158, op := _, type := _, pos := _, after := _, guard := _ }) (v := ?_) rfl (by kernel_rfl) (by kernel_rfl) (by kernel_rfl) (by kernel_rfl) (fun _ _ _ h => h) (Or.inl ⟨by rfl, ?_⟩) hS ?_
                          rotate_left
                          focus ((intro w hSw; (try dsimp only at hSw); obtain ⟨f, e0⟩ := hSw; go_simp); (try with_reducible rfl))
                          (try simp only [Act.put, List.setIfInBounds_toArray, List.set_cons_zero, List.set_cons_succ])
                          refine wpAnyZ_all (rs := [7]) (by kernel_rfl) (by simp) (fun i hi => ?_)
                          simp only [List.mem_cons, List.not_mem_nil, or_false] at hi
                          subst hi
                          clear hbd
                          refine stepZ (o := { dst := some 159, op := _, type := _, pos := _, after := _, guard := _ }) rfl (fun K hK => ?_)
                          go_simp
                          obtain ⟨gl, hgl⟩ : ∃ x, (we4).heap.size = x := ⟨_, rfl⟩
                          obtain ⟨wl, hwl⟩ : ∃ x, (we4).alloc (.cells #[.string nm, .bool bd] 85) = x := ⟨_, rfl⟩
                          have ll : Later we4 wl := hwl ▸ Later.new _ _
                          have hlit : Has wl (some ⟨gl, 0, none⟩) [.string nm, .bool bd] := hwl ▸ (Blk.new we4 [.string nm, .bool bd].toArray 85 gl hgl.symm).has
                          try rw [hgl]
                          rw [hwl]
                          have HP := Lib.hid (HP.out.later ll)
                          have HBL := Lib.hid (HBL.out.later ll)
                          have HOWN := Lib.hid (own_later HOWN.out ll)
                          have hS : (fun W : World => Far2 g g5 wx W ∧ W.cell? ⟨g5, 3, none⟩ = some (.slice Kk kn kc)) wl := ⟨hS.1.later ll, (HBL.out.cell 3 _ rfl)⟩
                          refine hK _ _ hS ?_
                          clear hK hwl ll hgl
                          (try simp only [Act.put, List.setIfInBounds_toArray, List.set_cons_zero, List.set_cons_succ])
                          refine wpAnyZ_all (rs := [8]) (by kernel_rfl) (by simp) (fun i hi => ?_)
                          simp only [List.mem_cons, List.not_mem_nil, or_false] at hi
                          subst hi
                          refine stepZ (o := { dst := some 160, op := _, type := _, pos := _, after := _, guard := _ }) rfl (fun K hK => ?_)
                          refine step_append_x rfl (.tmp 153) (.tmp 159) 43 rfl wx.heap.size 85 _ 2 24 Tryd.underlying43 info_k rfl (by decide) _ kn (fk ky) rfl HOWN.out gl 0 1 1 (fk [(nm, bd)]) rfl hlit rfl (by intro u hu; simp [fk] at hu; rcases hu with rfl | rfl <;> rfl) (by unfold maxLen; omega) (by omega) hS.1.size ?_
                          rintro C' cc' wq ho hgr hbl hat hnl
                          have hb5 := (hbl.block g5 HLX.out.2 : wq.heap[g5]? = wl.heap[g5]?)
                          have B5 : Blk wq g5 #[.slice (some ⟨cb, coff, none⟩) cn cc, .slice T tn tc, .slice G' (gn + 1) gc', .slice Kk kn kc, .int .i64 z] 45 := hb5.trans HBL.out
                          have hS : (fun W : World => Far2 g g5 wx W ∧ W.cell? ⟨g5, 3, none⟩ = some (.slice Kk kn kc)) wq := ⟨hS.1.grown hbl, B5.cell 3 _ rfl⟩
                          refine hK _ _ hS ?_
                          have HO := Lib.hid ho
                          have HPQ := Lib.hid (HP.out.below hbl (by have := HLX.out; omega))
                          clear hK hlit ho hbl hb5
                          (try simp only [Act.put, List.setIfInBounds_toArray, List.set_cons_zero, List.set_cons_succ])
                          refine wpAnyZ_take (i := 9) (oi := { dst := some 161, op := _, type := _, pos := _, after := _, guard := _ }) (v := ?_) rfl (by kernel_rfl) (by kernel_rfl) (by kernel_rfl) (by kernel_rfl) (fun _ _ _ h => h) (Or.inl ⟨by rfl, ?_⟩) hS ?_
                          rotate_left
                          focus ((intro w hSw; (try dsimp only at hSw); obtain ⟨f, e0⟩ := hSw; go_simp); (try with_reducible rfl))
                          (try simp only [Act.put, List.setIfInBounds_toArray, List.set_cons_zero, List.set_cons_succ])
                          refine wpAnyZ_all (rs := [10]) (by kernel_rfl) (by simp) (fun i hi => ?_)
                          simp only [List.mem_cons, List.not_mem_nil, or_false] at hi
                          subst hi
                          refine stepZl (o := { dst := none, op := _, type := _, pos := _, after := _, guard := _ }) rfl (fun K hK => ?_)
                          have e0 := B5.cell 3 _ rfl
                          have y0 := B5.frozen 3
                          have B6 := B5.set_ 3 (.slice C' (kn + 1) cc')
                          have F6 := hS.1.set_ 3 (.slice C' (kn + 1) cc')
                          have P6 := HPQ.out.far (p := ⟨g5, 3, none⟩) HLX.out.1 (.slice C' (kn + 1) cc')
                          have O6 := own_block (w' := wq.setCell ⟨g5, 3, none⟩ (.slice C' (kn + 1) cc')) HO.out fun q hq => Below.heap_setCell wq ⟨g5, 3, none⟩ _ q (by have := (own_at HO.out hq).1; have := HLX.out; show q ≠ g5; omega)
                          obtain ⟨wz, hwz⟩ : ∃ x, wq.setCell ⟨g5, 3, none⟩ (.slice C' (kn + 1) cc') = x := ⟨_, rfl⟩
                          rw [hwz] at B6 F6 P6 O6
                          have HNEW := Lib.hid (show ∀ y : Int, y = ((k - 1 : Nat) : Int) → Q4 xs g A n c bs z g5 (.slice (some ⟨cb, coff, none⟩) cn cc) (.slice T tn tc) (.slice G' (gn + 1) gc') wx (.int .i64 y) wz from fun y hy => Q4.mk y (k - 1) (ky ++ [(nm, bd)]) C' (kn + 1) cc' hy (by omega) (by rw [List.length_append, ← HKN.out]; rfl) (by intro s hs; rcases List.mem_append.1 hs with h | h; exact HFK.out s h; rw [List.mem_singleton] at h; subst h; exact HNAME.out) F6 P6 B6 (by rw [fk_append]; exact O6) hnl)
                          clear B6 F6 P6 O6 hgr hat
                          go_simp
                          refine hK _ _ ?_
                          clear hK e0 y0 B5 hS hwz
                          (try simp only [Act.put, List.setIfInBounds_toArray, List.set_cons_zero, List.set_cons_succ])
                          refine wpAnyZ_done (by kernel_rfl) ?_ _
                          have hdec : (k : Int) - 1 = ((k - 1 : Nat) : Int) := by omega
                          have hwk : IntKind.i64.wrap ((k - 1 : Nat) : Int) = ((k - 1 : Nat) : Int) := IntWalk.i64_in _ ⟨by omega, by omega⟩
                          go_wp2_with fail
                          go_roundw
                          all_goals first
                            | exact HNEW.out _ (by omega)
                            | exact HNEW.out _ rfl
                            | (simp [intOf]; done)
                            | (simp [intOf]; omega)
                        · have hct : ¬ (0 : Int) < (cn : Int) := by omega
                          go_wp2_with fail
                          clear e0 e2
                          refine wp_region_Z (S := (fun W : World => Far2 g g5 wx W ∧ W.cell? ⟨g5, 3, none⟩ = some (.slice Kk kn kc))) 10 (by kernel_rfl) ?_
                          have hS : (fun W : World => Far2 g g5 wx W ∧ W.cell? ⟨g5, 3, none⟩ = some (.slice Kk kn kc)) (we2).drew := ⟨hS.1.later (Later.refl _).drew, hS.2⟩
                          have HP := Lib.hid (HP.out.later (Later.refl _).drew)
                          have HBL := Lib.hid (HBL.out.later (Later.refl _).drew)
                          have HOWN := Lib.hid (own_later HOWN.out (Later.refl _).drew)
                          obtain ⟨wd_, hwd⟩ : ∃ x, (we2).drew = x := ⟨_, rfl⟩
                          rw [hwd] at hS HP HBL HOWN ⊢
                          clear hwd
                          refine wpAnyZ_take (i := 0) (oi := { dst := some 152, op := _, type := _, pos := _, after := _, guard := _ }) (v := ?_) rfl (by kernel_rfl) (by kernel_rfl) (by kernel_rfl) (by kernel_rfl) (fun _ _ _ h => h) (Or.inl ⟨by rfl, ?_⟩) hS ?_
                          rotate_left
                          focus ((intro w hSw; (try dsimp only at hSw); obtain ⟨f, e0⟩ := hSw; go_simp); (try with_reducible rfl))
                          (try simp only [Act.put, List.setIfInBounds_toArray, List.set_cons_zero, List.set_cons_succ])
                          refine wpAnyZ_take (i := 1) (oi := { dst := some 153, op := _, type := _, pos := _, after := _, guard := _ }) (v := ?_) rfl (by kernel_rfl) (by kernel_rfl) (by kernel_rfl) (by kernel_rfl) (fun _ _ _ h => h) (Or.inl ⟨by rfl, ?_⟩) hS ?_
                          rotate_left
                          focus ((intro w hSw; (try dsimp only at hSw); obtain ⟨f, e0⟩ := hSw; go_simp); (try with_reducible rfl))
                          (try simp only [Act.put, List.setIfInBounds_toArray, List.set_cons_zero, List.set_cons_succ])
                          refine wpAnyZ_take (i := 2) (oi := { dst := some 154, op := _, type := _, pos := _, after := _, guard := _ }) (v := ?_) rfl (by kernel_rfl) (by kernel_rfl) (by kernel_rfl) (by kernel_rfl) (fun _ _ _ h => h) (Or.inl ⟨by rfl, ?_⟩) hS ?_
                          rotate_left
                          focus ((intro w hSw; (try dsimp only at hSw); obtain ⟨f, e0⟩ := hSw; go_simp); (try with_reducible rfl))
                          (try simp only [Act.put, List.setIfInBounds_toArray, List.set_cons_zero, List.set_cons_succ])
                          refine wpAnyZ_take (i := 3) (oi := { dst := some 155, op := _, type := _, pos := _, after := _, guard := _ }) (v := ?_) rfl (by kernel_rfl) (by kernel_rfl) (by kernel_rfl) (by kernel_rfl) (fun _ _ _ h => h) (Or.inl ⟨by rfl, ?_⟩) hS ?_
                          rotate_left
                          focus ((intro w hSw; (try dsimp only at hSw); obtain ⟨f, e0⟩ := hSw; go_simp); (try with_reducible rfl))
                          (try simp only [Act.put, List.setIfInBounds_toArray, List.set_cons_zero, List.set_cons_succ])
                          refine wpAnyZ_all (rs := [4]) (by kernel_rfl) (by simp) (fun i hi => ?_)
                          simp only [List.mem_cons, List.not_mem_nil, or_false] at hi
                          subst hi
                          refine stepZ (o := { dst := some 156, op := _, type := _, pos := _, after := _, guard := _ }) rfl (fun K hK => ?_)
                          go_simp
                          refine (num_any 2 g A n c bs wd_ (by omega) HCC.out HP.out).mono ?_
                          rintro e we4 ⟨rd, hrd, rfl, hp, hf⟩
                          have HP := Lib.hid hp
                          have HBL := Lib.hid (hf.blk HBL.out (by have := HLX.out; omega))
                          have HOWN := Lib.hid (hf.own (by have := HLX.out; omega) HOWN.out)
                          have hS : (fun W : World => Far2 g g5 wx W ∧ W.cell? ⟨g5, 3, none⟩ = some (.slice Kk kn kc)) we4 := ⟨hS.1.far hf, HBL.out.cell 3 _ rfl⟩
                          refine hK _ _ hS ?_
                          clear hK hp hf
                          (try simp only [Act.put, List.setIfInBounds_toArray, List.set_cons_zero, List.set_cons_succ])
                          obtain ⟨bd, hbd⟩ : ∃ b, ((rd : Int) == 0) = b := ⟨_, rfl⟩
                          refine wpAnyZ_take (i := 5) (oi := { dst := some 157, op := _, type := _, pos := _, after := _, guard := _ }) (v := ?_) rfl (by kernel_rfl) (by kernel_rfl) (by kernel_rfl) (by kernel_rfl) (fun _ _ _ h => h) (Or.inl ⟨by rfl, ?_⟩) hS ?_
                          rotate_left
                          focus ((intro w hSw; (try dsimp only at hSw); obtain ⟨f, e0⟩ := hSw; go_simp); (try with_reducible rfl))
                          (try simp only [Act.put, List.setIfInBounds_toArray, List.set_cons_zero, List.set_cons_succ])
                          refine wpAnyZ_take (i := 6) (oi := { dst := some 158, op := _, type := _, pos := _, after := _, guard := _ }) (v := ?_) rfl (by kernel_rfl) (by kernel_rfl) (by kernel_rfl) (by kernel_rfl) (fun _ _ _ h => h) (Or.inl ⟨by rfl, ?_⟩) hS ?_
                          rotate_left
                          focus ((intro w hSw; (try dsimp only at hSw); obtain ⟨f, e0⟩ := hSw; go_simp); (try with_reducible rfl))
                          (try simp only [Act.put, List.setIfInBounds_toArray, List.set_cons_zero, List.set_cons_succ])
                          refine wpAnyZ_all (rs := [7]) (by kernel_rfl) (by simp) (fun i hi => ?_)
                          simp only [List.mem_cons, List.not_mem_nil, or_false] at hi
                          subst hi
                          clear hbd
                          refine stepZ (o := { dst := some 159, op := _, type := _, pos := _, after := _, guard := _ }) rfl (fun K hK => ?_)
                          go_simp
                          obtain ⟨gl, hgl⟩ : ∃ x, (we4).heap.size = x := ⟨_, rfl⟩
                          obtain ⟨wl, hwl⟩ : ∃ x, (we4).alloc (.cells #[.string nm, .bool bd] 85) = x := ⟨_, rfl⟩
                          have ll : Later we4 wl := hwl ▸ Later.new _ _
                          have hlit : Has wl (some ⟨gl, 0, none⟩) [.string nm, .bool bd] := hwl ▸ (Blk.new we4 [.string nm, .bool bd].toArray 85 gl hgl.symm).has
                          try rw [hgl]
                          rw [hwl]
                          have HP := Lib.hid (HP.out.later ll)
                          have HBL := Lib.hid (HBL.out.later ll)
                          have HOWN := Lib.hid (own_later HOWN.out ll)
                          have hS : (fun W : World => Far2 g g5 wx W ∧ W.cell? ⟨g5, 3, none⟩ = some (.slice Kk kn kc)) wl := ⟨hS.1.later ll, (HBL.out.cell 3 _ rfl)⟩
                          refine hK _ _ hS ?_
                          clear hK hwl ll hgl
                          (try simp only [Act.put, List.setIfInBounds_toArray, List.set_cons_zero, List.set_cons_succ])
                          refine wpAnyZ_all (rs := [8]) (by kernel_rfl) (by simp) (fun i hi => ?_)
                          simp only [List.mem_cons, List.not_mem_nil, or_false] at hi
                          subst hi
                          refine stepZ (o := { dst := some 160, op := _, type := _, pos := _, after := _, guard := _ }) rfl (fun K hK => ?_)
                          refine step_append_x rfl (.tmp 153) (.tmp 159) 43 rfl wx.heap.size 85 _ 2 24 Tryd.underlying43 info_k rfl (by decide) _ kn (fk ky) rfl HOWN.out gl 0 1 1 (fk [(nm, bd)]) rfl hlit rfl (by intro u hu; simp [fk] at hu; rcases hu with rfl | rfl <;> rfl) (by unfold maxLen; omega) (by omega) hS.1.size ?_
                          rintro C' cc' wq ho hgr hbl hat hnl
                          have hb5 := (hbl.block g5 HLX.out.2 : wq.heap[g5]? = wl.heap[g5]?)
                          have B5 : Blk wq g5 #[.slice C cn cc, .slice T tn tc, .slice G' (gn + 1) gc', .slice Kk kn kc, .int .i64 z] 45 := hb5.trans HBL.out
                          have hS : (fun W : World => Far2 g g5 wx W ∧ W.cell? ⟨g5, 3, none⟩ = some (.slice Kk kn kc)) wq := ⟨hS.1.grown hbl, B5.cell 3 _ rfl⟩
                          refine hK _ _ hS ?_
                          have HO := Lib.hid ho
                          have HPQ := Lib.hid (HP.out.below hbl (by have := HLX.out; omega))
                          clear hK hlit ho hbl hb5
                          (try simp only [Act.put, List.setIfInBounds_toArray, List.set_cons_zero, List.set_cons_succ])
                          refine wpAnyZ_take (i := 9) (oi := { dst := some 161, op := _, type := _, pos := _, after := _, guard := _ }) (v := ?_) rfl (by kernel_rfl) (by kernel_rfl) (by kernel_rfl) (by kernel_rfl) (fun _ _ _ h => h) (Or.inl ⟨by rfl, ?_⟩) hS ?_
                          rotate_left
                          focus ((intro w hSw; (try dsimp only at hSw); obtain ⟨f, e0⟩ := hSw; go_simp); (try with_reducible rfl))
                          (try simp only [Act.put, List.setIfInBounds_toArray, List.set_cons_zero, List.set_cons_succ])
                          refine wpAnyZ_all (rs := [10]) (by kernel_rfl) (by simp) (fun i hi => ?_)
                          simp only [List.mem_cons, List.not_mem_nil, or_false] at hi
                          subst hi
                          refine stepZl (o := { dst := none, op := _, type := _, pos := _, after := _, guard := _ }) rfl (fun K hK => ?_)
                          have e0 := B5.cell 3 _ rfl
                          have y0 := B5.frozen 3
                          have B6 := B5.set_ 3 (.slice C' (kn + 1) cc')
                          have F6 := hS.1.set_ 3 (.slice C' (kn + 1) cc')
                          have P6 := HPQ.out.far (p := ⟨g5, 3, none⟩) HLX.out.1 (.slice C' (kn + 1) cc')
                          have O6 := own_block (w' := wq.setCell ⟨g5, 3, none⟩ (.slice C' (kn + 1) cc')) HO.out fun q hq => Below.heap_setCell wq ⟨g5, 3, none⟩ _ q (by have := (own_at HO.out hq).1; have := HLX.out; show q ≠ g5; omega)
                          obtain ⟨wz, hwz⟩ : ∃ x, wq.setCell ⟨g5, 3, none⟩ (.slice C' (kn + 1) cc') = x := ⟨_, rfl⟩
                          rw [hwz] at B6 F6 P6 O6
                          have HNEW := Lib.hid (show ∀ y : Int, y = ((k - 1 : Nat) : Int) → Q4 xs g A n c bs z g5 (.slice C cn cc) (.slice T tn tc) (.slice G' (gn + 1) gc') wx (.int .i64 y) wz from fun y hy => Q4.mk y (k - 1) (ky ++ [(nm, bd)]) C' (kn + 1) cc' hy (by omega) (by rw [List.length_append, ← HKN.out]; rfl) (by intro s hs; rcases List.mem_append.1 hs with h | h; exact HFK.out s h; rw [List.mem_singleton] at h; subst h; exact HNAME.out) F6 P6 B6 (by rw [fk_append]; exact O6) hnl)
                          clear B6 F6 P6 O6 hgr hat
                          go_simp
                          refine hK _ _ ?_
                          clear hK e0 y0 B5 hS hwz
                          (try simp only [Act.put, List.setIfInBounds_toArray, List.set_cons_zero, List.set_cons_succ])
                          refine wpAnyZ_done (by kernel_rfl) ?_ _
                          have hdec : (k : Int) - 1 = ((k - 1 : Nat) : Int) := by omega
                          have hwk : IntKind.i64.wrap ((k - 1 : Nat) : Int) = ((k - 1 : Nat) : Int) := IntWalk.i64_in _ ⟨by omega, by omega⟩
                          go_wp2_with fail
                          go_roundw
                          all_goals first
                            | exact HNEW.out _ (by omega)
                            | exact HNEW.out _ rfl
                            | (simp [intOf]; done)
                            | (simp [intOf]; omega)
                      · omega
                    · have hk0' : k = 0 := by omega
                      subst hk0'
                      have HKN := Lib.hid (show kn = ky.length ∧ kn ≤ 2 from ⟨HKN.out, by omega⟩)
                      have FZ := Lib.hid (FW.out.trans f6)
                      have hw0 : w.heap.size + 2 ≤ w3.heap.size := by have := HL3.out; have := HG5.out; omega
                      have RS := Lib.hid (show QE w g A n c bs C cn cc ns T tn tc l G' (gn + 1) gc' ((ag ++ [((1 : Int), (⟨#[]⟩ : ByteArray))])) Kk kn kc ky wr from ⟨HP.out, FZ.out.to HF3.out (by have := HG5.out; omega), own_low (f6.own (by have := HL3.out; omega) HC.out) hw0, own_low (f6.own (by have := HLB.out; omega) HT.out) (by have := HFB.out.size; omega), own_low (f6.own (by have := HL3.out; omega) HG4.out) hw0, own_low HOWN.out (by have := FW.out.size; omega)⟩)
                      have B := FZ.out.blk HR3.out (by have := HG.out; omega) (by have := HG5.out; omega)
                      have q0 := HBL.out.cell 0 _ rfl
                      have q1 := HBL.out.cell 1 _ rfl
                      have q2 := HBL.out.cell 2 _ rfl
                      have q3 := HBL.out.cell 3 _ rfl
                      have q4 := HBL.out.cell 4 _ rfl
                      have x0 := B.cell 0 _ rfl
                      have y0 := B.frozen 0
                      have B := B.set_ 0 (.slice C cn cc)
                      have RS := Lib.hid (RS.out.set_ (h1 := h0 + 1) (by omega) 0 (.slice C cn cc))
                      obtain ⟨wv0, hwv0⟩ : ∃ x, (wr).setCell ⟨h0 + 1, 0, none⟩ (.slice C cn cc) = x := ⟨_, rfl⟩
                      rw [hwv0] at B RS
                      have x1 := B.cell 1 _ rfl
                      have y1 := B.frozen 1
                      have B := B.set_ 1 (.slice T tn tc)
                      have RS := Lib.hid (RS.out.set_ (h1 := h0 + 1) (by omega) 1 (.slice T tn tc))
                      obtain ⟨wv1, hwv1⟩ : ∃ x, (wv0).setCell ⟨h0 + 1, 1, none⟩ (.slice T tn tc) = x := ⟨_, rfl⟩
                      rw [hwv1] at B RS
                      have x2 := B.cell 2 _ rfl
                      have y2 := B.frozen 2
                      have B := B.set_ 2 (.slice G' (gn + 1) gc')
                      have RS := Lib.hid (RS.out.set_ (h1 := h0 + 1) (by omega) 2 (.slice G' (gn + 1) gc'))
                      obtain ⟨wv2, hwv2⟩ : ∃ x, (wv1).setCell ⟨h0 + 1, 2, none⟩ (.slice G' (gn + 1) gc') = x := ⟨_, rfl⟩
                      rw [hwv2] at B RS
                      have x3 := B.cell 3 _ rfl
                      have y3 := B.frozen 3
                      have B := B.set_ 3 (.slice Kk kn kc)
                      have RS := Lib.hid (RS.out.set_ (h1 := h0 + 1) (by omega) 3 (.slice Kk kn kc))
                      obtain ⟨wv3, hwv3⟩ : ∃ x, (wv2).setCell ⟨h0 + 1, 3, none⟩ (.slice Kk kn kc) = x := ⟨_, rfl⟩
                      rw [hwv3] at B RS
                      have x4 := B.cell 4 _ rfl
                      have y4 := B.frozen 4
                      have B := B.set_ 4 (.int .i64 z)
                      have RS := Lib.hid (RS.out.set_ (h1 := h0 + 1) (by omega) 4 (.int .i64 z))
                      obtain ⟨wv4, hwv4⟩ : ∃ x, (wv3).setCell ⟨h0 + 1, 4, none⟩ (.int .i64 z) = x := ⟨_, rfl⟩
                      rw [hwv4] at B RS
                      clear f6
                      go_wp2_with fail
                      (try simp only [Exit.inBlock, Exit.then])
                      refine bodyPost_ret (results_cell_row rfl _ _ (h0 + 1) _ _ _ _ rfl B Tryd.underlying45 rfl (by kernel_rfl)) rfl ?_
                      exact ⟨C, cn, cc, ns, T, tn, tc, l, G', gn + 1, gc', (ag ++ [((1 : Int), (⟨#[]⟩ : ByteArray))]), Kk, kn, kc, ky, z, rfl, ⟨HCN.out, HNS.out, HCNIL.out⟩, ⟨HTN.out, HFT.out, HTNIL.out⟩, HAG.out, ⟨HKN.out, HFK.out, HKNIL.out⟩, HZ.out, RS.out⟩
                · have hrqf : ((rq : Int) == 0) = false := by rw [beq_eq_false_iff_ne]; omega
                  have HAG := Lib.hid (show (gn = ag.length ∧ gn ≤ 3) ∧ FitA xs ag ∧ (G = none → gc = 0) from ⟨HGN.out, HFA.out, HGNIL.out⟩)
                  have HG4 := Lib.hid (own_low HG4.out HW3D.out)
                  go_wp2_with fail
                  refine (num_any 3 g A n c bs we (by omega) HCC.out HP.out).mono ?_
                  rintro e wx ⟨rx, hrx, rfl, hp, hf⟩
                  have HP := Lib.hid hp
                  have FW := Lib.hid (FW.out.far hf)
                  have HB5 := Lib.hid (hf.blk HB5.out (by have := HL3.out; omega))
                  have HC := Lib.hid (hf.own (by have := HL3.out; have := HL3.out; omega) HC.out)
                  have HT := Lib.hid (hf.own (by have := HL3.out; have := HLB.out; omega) HT.out)
                  have HG4 := Lib.hid (hf.own (by have := HL3.out; have := HL3.out; omega) HG4.out)
                  clear hp hf
                  have HLX := Lib.hid (show g < g5 ∧ g5 < wx.heap.size from ⟨HL3.out.1, HB5.out.lt⟩)
                  have HM0 := Lib.hid (Q4.mk (xs := xs) (g := g) (A := A) (n := n) (c := c) (bs := bs) (z := z) (g5 := g5) (cv := .slice C cn cc) (tv := .slice T tn tc) (gv := .slice G gn gc) (w0 := wx) (wr := wx) rx rx [] none 0 0 rfl (by omega) rfl (fun s hs => by cases hs) (Far2.refl HLX.out) HP.out HB5.out (ownG_nil _ _ _ _) (fun _ => rfl))
                  clear HB5 HP
                  go_wp2_with fail
                  go_loopw [10] (fun iv wr => Q4 xs g A n c bs z g5 (.slice C cn cc) (.slice T tn tc) (.slice G gn gc) wx iv wr) (fun i _ => (intOf i).toNat)
                  case atStart => exact HM0.out
                  case round =>
                    obtain ⟨k, ky, Kk, kn, kc, rfl, hk, hkn, hfk, f6, hpk, hbl, hown, hkc⟩ := hrel
                    have HFK := Lib.hid hfk
                    have HKN := Lib.hid hkn
                    have HKNIL := Lib.hid hkc
                    have HP := Lib.hid hpk
                    have HBL := Lib.hid hbl
                    have HOWN := Lib.hid hown
                    clear HM0 hfk hkc hpk hkn hbl hown
                    by_cases hk0 : 0 < k
                    · have hkk : (0 : Int) < (k : Int) := by omega
                      have hS : (fun W : World => Far2 g g5 wx W ∧ W.cell? ⟨g5, 3, none⟩ = some (.slice Kk kn kc)) wr := ⟨f6, HBL.out.cell 3 _ rfl⟩
                      clear f6
                      go_wp2_with fail
                      refine wp_region_Z (S := (fun W : World => Far2 g g5 wx W ∧ W.cell? ⟨g5, 3, none⟩ = some (.slice Kk kn kc))) 10 (by kernel_rfl) ?_
                      have hS : (fun W : World => Far2 g g5 wx W ∧ W.cell? ⟨g5, 3, none⟩ = some (.slice Kk kn kc)) (wr).drew := ⟨hS.1.later (Later.refl _).drew, hS.2⟩
                      have HP := Lib.hid (HP.out.later (Later.refl _).drew)
                      have HBL := Lib.hid (HBL.out.later (Later.refl _).drew)
                      have HOWN := Lib.hid (own_later HOWN.out (Later.refl _).drew)
                      obtain ⟨wd_, hwd⟩ : ∃ x, (wr).drew = x := ⟨_, rfl⟩
                      rw [hwd] at hS HP HBL HOWN ⊢
                      clear hwd
                      refine wpAnyZ_take (i := 0) (oi := { dst := some 123, op := _, type := _, pos := _, after := _, guard := _ }) (v := ?_) rfl (by kernel_rfl) (by kernel_rfl) (by kernel_rfl) (by kernel_rfl) (fun _ _ _ h => h) (Or.inl ⟨by rfl, ?_⟩) hS ?_
                      rotate_left
                      focus ((intro w hSw; (try dsimp only at hSw); obtain ⟨f, e0⟩ := hSw; have d0 := HSC.out w (FW.out.trans f); go_simp); (try with_reducible rfl))
                      (try simp only [Act.put, List.setIfInBounds_toArray, List.set_cons_zero, List.set_cons_succ])
                      refine wpAnyZ_take (i := 1) (oi := { dst := some 124, op := _, type := _, pos := _, after := _, guard := _ }) (v := ?_) rfl (by kernel_rfl) (by kernel_rfl) (by kernel_rfl) (by kernel_rfl) (fun _ _ _ h => h) (Or.inl ⟨by rfl, ?_⟩) hS ?_
                      rotate_left
                      focus ((intro w hSw; (try dsimp only at hSw); obtain ⟨f, e0⟩ := hSw; have d0 := HSC.out w (FW.out.trans f); go_simp); (try with_reducible rfl))
                      (try simp only [Act.put, List.setIfInBounds_toArray, List.set_cons_zero, List.set_cons_succ])
                      refine wpAnyZ_take (i := 2) (oi := { dst := some 125, op := _, type := _, pos := _, after := _, guard := _ }) (v := ?_) rfl (by kernel_rfl) (by kernel_rfl) (by kernel_rfl) (by kernel_rfl) (fun _ _ _ h => h) (Or.inl ⟨by rfl, ?_⟩) hS ?_
                      rotate_left
                      focus ((intro w hSw; (try dsimp only at hSw); obtain ⟨f, e0⟩ := hSw; have d0 := HSC.out w (FW.out.trans f); go_simp); (try with_reducible rfl))
                      (try simp only [Act.put, List.setIfInBounds_toArray, List.set_cons_zero, List.set_cons_succ])
                      refine wpAnyZ_take (i := 3) (oi := { dst := some 126, op := _, type := _, pos := _, after := _, guard := _ }) (v := ?_) rfl (by kernel_rfl) (by kernel_rfl) (by kernel_rfl) (by kernel_rfl) (fun _ _ _ h => h) (Or.inl ⟨by rfl, ?_⟩) hS ?_
                      rotate_left
                      focus ((intro w hSw; (try dsimp only at hSw); obtain ⟨f, e0⟩ := hSw; have d0 := HSC.out w (FW.out.trans f); go_simp); (try with_reducible rfl))
                      (try simp only [Act.put, List.setIfInBounds_toArray, List.set_cons_zero, List.set_cons_succ])
                      refine wpAnyZ_take (i := 4) (oi := { dst := some 127, op := _, type := _, pos := _, after := _, guard := _ }) (v := ?_) rfl (by kernel_rfl) (by kernel_rfl) (by kernel_rfl) (by kernel_rfl) (fun _ _ _ h => h) (Or.inl ⟨by rfl, ?_⟩) hS ?_
                      rotate_left
                      focus ((intro w hSw; (try dsimp only at hSw); obtain ⟨f, e0⟩ := hSw; have d0 := HSC.out w (FW.out.trans f); go_simp); (try with_reducible rfl))
                      (try simp only [Act.put, List.setIfInBounds_toArray, List.set_cons_zero, List.set_cons_succ])
                      refine wpAnyZ_take (i := 5) (oi := { dst := some 128, op := _, type := _, pos := _, after := _, guard := _ }) (v := ?_) rfl (by kernel_rfl) (by kernel_rfl) (by kernel_rfl) (by kernel_rfl) (fun _ _ _ h => h) (Or.inl ⟨by rfl, ?_⟩) hS ?_
                      rotate_left
                      focus ((intro w hSw; (try dsimp only at hSw); obtain ⟨f, e0⟩ := hSw; have d0 := HSC.out w (FW.out.trans f); go_simp); (try with_reducible rfl))
                      (try simp only [Act.put, List.setIfInBounds_toArray, List.set_cons_zero, List.set_cons_succ])
                      refine wpAnyZ_all (rs := [6]) (by kernel_rfl) (by simp) (fun i hi => ?_)
                      simp only [List.mem_cons, List.not_mem_nil, or_false] at hi
                      subst hi
                      refine stepZ (o := { dst := some 129, op := _, type := _, pos := _, after := _, guard := _ }) rfl (fun K hK => ?_)
                      go_simp
                      refine (num_any vn g A n c bs wd_ (by omega) HCC.out HP.out).mono ?_
                      rintro e we2 ⟨ry, hry, rfl, hp, hf⟩
                      have HP := Lib.hid hp
                      have HBL := Lib.hid (hf.blk HBL.out (by have := HLX.out; omega))
                      have HOWN := Lib.hid (hf.own (by have := HLX.out; omega) HOWN.out)
                      have hS : (fun W : World => Far2 g g5 wx W ∧ W.cell? ⟨g5, 3, none⟩ = some (.slice Kk kn kc)) we2 := ⟨hS.1.far hf, HBL.out.cell 3 _ rfl⟩
                      refine hK _ _ hS ?_
                      clear hK hp hf
                      (try simp only [Act.put, List.setIfInBounds_toArray, List.set_cons_zero, List.set_cons_succ])
                      have hrx : ry < xs.length := by have := HVN.out; omega
                      have HXY := Lib.hid (fun W f => (HCK.out W (FW.out.trans f) ry hrx).1 : ∀ W, Far2 g g5 wx W → W.cell? ⟨vb, voff + ry * 3 + 1, none⟩ = some (.string xs[ry].2.1))
                      have HMEM := Lib.hid (List.getElem_mem hrx)
                      generalize xs[ry] = x at HXY HMEM
                      obtain ⟨xi, nm, ty⟩ := x
                      dsimp only at HXY
                      have hrxl : (ry : Int) < (vn : Int) := by omega
                      have hrx0 : (0 : Int) ≤ (ry : Int) := by omega
                      clear hrx
                      refine wpAnyZ_take (i := 7) (oi := { dst := some 130, op := _, type := _, pos := _, after := _, guard := _ }) (v := ?_) rfl (by kernel_rfl) (by kernel_rfl) (by kernel_rfl) (by kernel_rfl) (fun _ _ _ h => h) (Or.inl ⟨by rfl, ?_⟩) hS ?_
                      rotate_left
                      focus ((intro w hSw; (try dsimp only at hSw); obtain ⟨f, e0⟩ := hSw; have d0 := HSC.out w (FW.out.trans f); have d1 := HXY.out w f; go_simp); (try with_reducible rfl))
                      (try simp only [Act.put, List.setIfInBounds_toArray, List.set_cons_zero, List.set_cons_succ])
                      refine wpAnyZ_take (i := 8) (oi := { dst := some 131, op := _, type := _, pos := _, after := _, guard := _ }) (v := ?_) rfl (by kernel_rfl) (by kernel_rfl) (by kernel_rfl) (by kernel_rfl) (fun _ _ _ h => h) (Or.inl ⟨by rfl, ?_⟩) hS ?_
                      rotate_left
                      focus ((intro w hSw; (try dsimp only at hSw); obtain ⟨f, e0⟩ := hSw; have d0 := HSC.out w (FW.out.trans f); have d1 := HXY.out w f; go_simp); (try with_reducible rfl))
                      (try simp only [Act.put, List.setIfInBounds_toArray, List.set_cons_zero, List.set_cons_succ])
                      refine wpAnyZ_take (i := 9) (oi := { dst := some 132, op := _, type := _, pos := _, after := _, guard := _ }) (v := ?_) rfl (by kernel_rfl) (by kernel_rfl) (by kernel_rfl) (by kernel_rfl) (fun _ _ _ h => h) (Or.inl ⟨by rfl, ?_⟩) hS ?_
                      rotate_left
                      focus ((intro w hSw; (try dsimp only at hSw); obtain ⟨f, e0⟩ := hSw; have d0 := HSC.out w (FW.out.trans f); have d1 := HXY.out w f; go_simp); (try with_reducible rfl))
                      (try simp only [Act.put, List.setIfInBounds_toArray, List.set_cons_zero, List.set_cons_succ])
                      refine wpAnyZ_all (rs := [10]) (by kernel_rfl) (by simp) (fun i hi => ?_)
                      simp only [List.mem_cons, List.not_mem_nil, or_false] at hi
                      subst hi
                      refine stepZl (o := { dst := some 11, op := _, type := _, pos := _, after := _, guard := _ }) rfl (fun K hK => ?_)
                      go_simp
                      refine hK _ _ ?_
                      clear hK
                      (try simp only [Act.put, List.setIfInBounds_toArray, List.set_cons_zero, List.set_cons_succ])
                      refine wpAnyZ_done (by kernel_rfl) ?_ _
                      have e0 := HBL.out.cell 0 _ rfl
                      have e2 := HBL.out.cell 2 _ rfl
                      have HNAME := Lib.hid (show ∃ c ∈ xs, nm = c.2.1 from ⟨_, HMEM.out, rfl⟩)
                      by_cases hgz : 0 < gn
                      · have hgt : (0 : Int) < ((gn : Nat) : Int) := by omega
                        by_cases hcz : 0 < cn
                        · have hct : (0 : Int) < (cn : Int) := by omega
                          go_wp2_with fail
                          clear e0 e2
                          have hS3 := hS
                          have hS : (fun W : World => Far2 g g5 wx W ∧ W.cell? ⟨g5, 0, none⟩ = some (.slice C cn cc)) we2 := ⟨hS.1, HBL.out.cell 0 _ rfl⟩
                          clear hS3
                          refine wp_region_Z (S := (fun W : World => Far2 g g5 wx W ∧ W.cell? ⟨g5, 0, none⟩ = some (.slice C cn cc))) 9 (by kernel_rfl) ?_
                          have hS : (fun W : World => Far2 g g5 wx W ∧ W.cell? ⟨g5, 0, none⟩ = some (.slice C cn cc)) (we2).drew := ⟨hS.1.later (Later.refl _).drew, hS.2⟩
                          have HP := Lib.hid (HP.out.later (Later.refl _).drew)
                          have HBL := Lib.hid (HBL.out.later (Later.refl _).drew)
                          have HOWN := Lib.hid (own_later HOWN.out (Later.refl _).drew)
                          obtain ⟨wd_, hwd⟩ : ∃ x, (we2).drew = x := ⟨_, rfl⟩
                          rw [hwd] at hS HP HBL HOWN ⊢
                          clear hwd
                          refine wpAnyZ_take (i := 0) (oi := { dst := some 143, op := _, type := _, pos := _, after := _, guard := _ }) (v := ?_) rfl (by kernel_rfl) (by kernel_rfl) (by kernel_rfl) (by kernel_rfl) (fun _ _ _ h => h) (Or.inl ⟨by rfl, ?_⟩) hS ?_
                          rotate_left
                          focus ((intro w hSw; (try dsimp only at hSw); obtain ⟨f, d0⟩ := hSw; go_simp); (try with_reducible rfl))
                          (try simp only [Act.put, List.setIfInBounds_toArray, List.set_cons_zero, List.set_cons_succ])
                          refine wpAnyZ_take (i := 1) (oi := { dst := some 144, op := _, type := _, pos := _, after := _, guard := _ }) (v := ?_) rfl (by kernel_rfl) (by kernel_rfl) (by kernel_rfl) (by kernel_rfl) (fun _ _ _ h => h) (Or.inl ⟨by rfl, ?_⟩) hS ?_
                          rotate_left
                          focus ((intro w hSw; (try dsimp only at hSw); obtain ⟨f, d0⟩ := hSw; go_simp); (try with_reducible rfl))
                          (try simp only [Act.put, List.setIfInBounds_toArray, List.set_cons_zero, List.set_cons_succ])
                          refine wpAnyZ_take (i := 2) (oi := { dst := some 145, op := _, type := _, pos := _, after := _, guard := _ }) (v := ?_) rfl (by kernel_rfl) (by kernel_rfl) (by kernel_rfl) (by kernel_rfl) (fun _ _ _ h => h) (Or.inl ⟨by rfl, ?_⟩) hS ?_
                          rotate_left
                          focus ((intro w hSw; (try dsimp only at hSw); obtain ⟨f, d0⟩ := hSw; go_simp); (try with_reducible rfl))
                          (try simp only [Act.put, List.setIfInBounds_toArray, List.set_cons_zero, List.set_cons_succ])
                          refine wpAnyZ_take (i := 3) (oi := { dst := some 146, op := _, type := _, pos := _, after := _, guard := _ }) (v := ?_) rfl (by kernel_rfl) (by kernel_rfl) (by kernel_rfl) (by kernel_rfl) (fun _ _ _ h => h) (Or.inl ⟨by rfl, ?_⟩) hS ?_
                          rotate_left
                          focus ((intro w hSw; (try dsimp only at hSw); obtain ⟨f, d0⟩ := hSw; go_simp); (try with_reducible rfl))
                          (try simp only [Act.put, List.setIfInBounds_toArray, List.set_cons_zero, List.set_cons_succ])
                          refine wpAnyZ_take (i := 4) (oi := { dst := some 147, op := _, type := _, pos := _, after := _, guard := _ }) (v := ?_) rfl (by kernel_rfl) (by kernel_rfl) (by kernel_rfl) (by kernel_rfl) (fun _ _ _ h => h) (Or.inl ⟨by rfl, ?_⟩) hS ?_
                          rotate_left
                          focus ((intro w hSw; (try dsimp only at hSw); obtain ⟨f, d0⟩ := hSw; go_simp); (try with_reducible rfl))
                          (try simp only [Act.put, List.setIfInBounds_toArray, List.set_cons_zero, List.set_cons_succ])
                          refine wpAnyZ_take (i := 5) (oi := { dst := some 148, op := _, type := _, pos := _, after := _, guard := _ }) (v := ?_) rfl (by kernel_rfl) (by kernel_rfl) (by kernel_rfl) (by kernel_rfl) (fun _ _ _ h => h) (Or.inl ⟨by rfl, ?_⟩) hS ?_
                          rotate_left
                          focus ((intro w hSw; (try dsimp only at hSw); obtain ⟨f, d0⟩ := hSw; go_simp); (try with_reducible rfl))
                          (try simp only [Act.put, List.setIfInBounds_toArray, List.set_cons_zero, List.set_cons_succ])
                          refine wpAnyZ_all (rs := [6]) (by kernel_rfl) (by simp) (fun i hi => ?_)
                          simp only [List.mem_cons, List.not_mem_nil, or_false] at hi
                          subst hi
                          refine stepZ (o := { dst := some 149, op := _, type := _, pos := _, after := _, guard := _ }) rfl (fun K hK => ?_)
                          go_simp
                          refine (num_any cn g A n c bs wd_ (by omega) HCC.out HP.out).mono ?_
                          rintro e we3 ⟨rz, hrz, rfl, hp, hf⟩
                          have HP := Lib.hid hp
                          have HBL := Lib.hid (hf.blk HBL.out (by have := HLX.out; omega))
                          have HOWN := Lib.hid (hf.own (by have := HLX.out; omega) HOWN.out)
                          have hS : (fun W : World => Far2 g g5 wx W ∧ W.cell? ⟨g5, 0, none⟩ = some (.slice C cn cc)) we3 := ⟨hS.1.far hf, HBL.out.cell 0 _ rfl⟩
                          refine hK _ _ hS ?_
                          clear hK hp hf
                          (try simp only [Act.put, List.setIfInBounds_toArray, List.set_cons_zero, List.set_cons_succ])
                          have hrzn : rz < (ns.map Value.string).length := by rw [List.length_map]; have := HCN.out.1; omega
                          have hrzm : rz < ns.length := by have := HCN.out.1; omega
                          obtain ⟨cb, coff, hCA, _⟩ := has_at (Has.own HC.out) rz hrzn
                          have HCE := Lib.hid (fun W f => by
                            obtain ⟨b', off', hA', w1'⟩ := has_at (Has.own (Far2.own f (by have := HL3.out; omega) HC.out)) rz hrzn
                            rw [hCA] at hA'
                            injection hA' with hA'; injection hA' with e1 e2
                            subst e1 e2
                            rw [List.getElem_map] at w1'
                            exact w1' : ∀ W, Far2 g g5 wx W → W.cell? ⟨cb, coff + rz, none⟩ = some (.string ns[rz]))
                          have HNAME := Lib.hid (HNS.out _ (List.getElem_mem hrzm))
                          generalize ns[rz] = nm2 at HCE HNAME
                          subst hCA
                          have hrzl : (rz : Int) < (cn : Int) := by omega
                          have hrz0 : (0 : Int) ≤ (rz : Int) := by omega
                          refine wpAnyZ_take (i := 7) (oi := { dst := some 150, op := _, type := _, pos := _, after := _, guard := _ }) (v := ?_) rfl (by kernel_rfl) (by kernel_rfl) (by kernel_rfl) (by kernel_rfl) (fun _ _ _ h => h) (Or.inl ⟨by rfl, ?_⟩) hS ?_
                          rotate_left
                          focus ((intro w hSw; (try dsimp only at hSw); obtain ⟨f, d0⟩ := hSw; have d1 := HCE.out w f; go_simp); (try with_reducible rfl))
                          (try simp only [Act.put, List.setIfInBounds_toArray, List.set_cons_zero, List.set_cons_succ])
                          refine wpAnyZ_take (i := 8) (oi := { dst := some 151, op := _, type := _, pos := _, after := _, guard := _ }) (v := ?_) rfl (by kernel_rfl) (by kernel_rfl) (by kernel_rfl) (by kernel_rfl) (fun _ _ _ h => h) (Or.inl ⟨by rfl, ?_⟩) hS ?_
                          rotate_left
                          focus ((intro w hSw; (try dsimp only at hSw); obtain ⟨f, d0⟩ := hSw; have d1 := HCE.out w f; go_simp); (try with_reducible rfl))
                          (try simp only [Act.put, List.setIfInBounds_toArray, List.set_cons_zero, List.set_cons_succ])
                          refine wpAnyZ_all (rs := [9]) (by kernel_rfl) (by simp) (fun i hi => ?_)
                          simp only [List.mem_cons, List.not_mem_nil, or_false] at hi
                          subst hi
                          refine stepZl (o := { dst := some 11, op := _, type := _, pos := _, after := _, guard := _ }) rfl (fun K hK => ?_)
                          go_simp
                          refine hK _ _ ?_
                          clear hK HCE
                          (try simp only [Act.put, List.setIfInBounds_toArray, List.set_cons_zero, List.set_cons_succ])
                          refine wpAnyZ_done (by kernel_rfl) ?_ _
                          have hS3 := hS
                          have hS : (fun W : World => Far2 g g5 wx W ∧ W.cell? ⟨g5, 3, none⟩ = some (.slice Kk kn kc)) we3 := ⟨hS.1, HBL.out.cell 3 _ rfl⟩
                          clear hS3
                          obtain ⟨nm, hnm⟩ : ∃ x, nm2 = x := ⟨_, rfl⟩
                          rw [hnm] at HNAME ⊢
                          clear hnm
                          go_wp2_with fail
                          refine wp_region_Z (S := (fun W : World => Far2 g g5 wx W ∧ W.cell? ⟨g5, 3, none⟩ = some (.slice Kk kn kc))) 10 (by kernel_rfl) ?_
                          have hS : (fun W : World => Far2 g g5 wx W ∧ W.cell? ⟨g5, 3, none⟩ = some (.slice Kk kn kc)) (we3).drew := ⟨hS.1.later (Later.refl _).drew, hS.2⟩
                          have HP := Lib.hid (HP.out.later (Later.refl _).drew)
                          have HBL := Lib.hid (HBL.out.later (Later.refl _).drew)
                          have HOWN := Lib.hid (own_later HOWN.out (Later.refl _).drew)
                          obtain ⟨wd_, hwd⟩ : ∃ x, (we3).drew = x := ⟨_, rfl⟩
                          rw [hwd] at hS HP HBL HOWN ⊢
                          clear hwd
                          refine wpAnyZ_take (i := 0) (oi := { dst := some 152, op := _, type := _, pos := _, after := _, guard := _ }) (v := ?_) rfl (by kernel_rfl) (by kernel_rfl) (by kernel_rfl) (by kernel_rfl) (fun _ _ _ h => h) (Or.inl ⟨by rfl, ?_⟩) hS ?_
                          rotate_left
                          focus ((intro w hSw; (try dsimp only at hSw); obtain ⟨f, e0⟩ := hSw; go_simp); (try with_reducible rfl))
                          (try simp only [Act.put, List.setIfInBounds_toArray, List.set_cons_zero, List.set_cons_succ])
                          refine wpAnyZ_take (i := 1) (oi := { dst := some 153, op := _, type := _, pos := _, after := _, guard := _ }) (v := ?_) rfl (by kernel_rfl) (by kernel_rfl) (by kernel_rfl) (by kernel_rfl) (fun _ _ _ h => h) (Or.inl ⟨by rfl, ?_⟩) hS ?_
                          rotate_left
                          focus ((intro w hSw; (try dsimp only at hSw); obtain ⟨f, e0⟩ := hSw; go_simp); (try with_reducible rfl))
                          (try simp only [Act.put, List.setIfInBounds_toArray, List.set_cons_zero, List.set_cons_succ])
                          refine wpAnyZ_take (i := 2) (oi := { dst := some 154, op := _, type := _, pos := _, after := _, guard := _ }) (v := ?_) rfl (by kernel_rfl) (by kernel_rfl) (by kernel_rfl) (by kernel_rfl) (fun _ _ _ h => h) (Or.inl ⟨by rfl, ?_⟩) hS ?_
                          rotate_left
                          focus ((intro w hSw; (try dsimp only at hSw); obtain ⟨f, e0⟩ := hSw; go_simp); (try with_reducible rfl))
                          (try simp only [Act.put, List.setIfInBounds_toArray, List.set_cons_zero, List.set_cons_succ])
                          refine wpAnyZ_take (i := 3) (oi := { dst := some 155, op := _, type := _, pos := _, after := _, guard := _ }) (v := ?_) rfl (by kernel_rfl) (by kernel_rfl) (by kernel_rfl) (by kernel_rfl) (fun _ _ _ h => h) (Or.inl ⟨by rfl, ?_⟩) hS ?_
                          rotate_left
                          focus ((intro w hSw; (try dsimp only at hSw); obtain ⟨f, e0⟩ := hSw; go_simp); (try with_reducible rfl))
                          (try simp only [Act.put, List.setIfInBounds_toArray, List.set_cons_zero, List.set_cons_succ])
                          refine wpAnyZ_all (rs := [4]) (by kernel_rfl) (by simp) (fun i hi => ?_)
                          simp only [List.mem_cons, List.not_mem_nil, or_false] at hi
                          subst hi
                          refine stepZ (o := { dst := some 156, op := _, type := _, pos := _, after := _, guard := _ }) rfl (fun K hK => ?_)
                          go_simp
                          refine (num_any 2 g A n c bs wd_ (by omega) HCC.out HP.out).mono ?_
                          rintro e we4 ⟨rd, hrd, rfl, hp, hf⟩
                          have HP := Lib.hid hp
                          have HBL := Lib.hid (hf.blk HBL.out (by have := HLX.out; omega))
                          have HOWN := Lib.hid (hf.own (by have := HLX.out; omega) HOWN.out)
                          have hS : (fun W : World => Far2 g g5 wx W ∧ W.cell? ⟨g5, 3, none⟩ = some (.slice Kk kn kc)) we4 := ⟨hS.1.far hf, HBL.out.cell 3 _ rfl⟩
                          refine hK _ _ hS ?_
                          clear hK hp hf
                          (try simp only [Act.put, List.setIfInBounds_toArray, List.set_cons_zero, List.set_cons_succ])
                          obtain ⟨bd, hbd⟩ : ∃ b, ((rd : Int) == 0) = b := ⟨_, rfl⟩
                          refine wpAnyZ_take (i := 5) (oi := { dst := some 157, op := _, type := _, pos := _, after := _, guard := _ }) (v := ?_) rfl (by kernel_rfl) (by kernel_rfl) (by kernel_rfl) (by kernel_rfl) (fun _ _ _ h => h) (Or.inl ⟨by rfl, ?_⟩) hS ?_
                          rotate_left
                          focus ((intro w hSw; (try dsimp only at hSw); obtain ⟨f, e0⟩ := hSw; go_simp); (try with_reducible rfl))
                          (try simp only [Act.put, List.setIfInBounds_toArray, List.set_cons_zero, List.set_cons_succ])
                          refine wpAnyZ_take (i := 6) (oi := { dst := some 158, op := _, type := _, pos := _, after := _, guard := _ }) (v := ?_) rfl (by kernel_rfl) (by kernel_rfl) (by kernel_rfl) (by kernel_rfl) (fun _ _ _ h => h) (Or.inl ⟨by rfl, ?_⟩) hS ?_
                          rotate_left
                          focus ((intro w hSw; (try dsimp only at hSw); obtain ⟨f, e0⟩ := hSw; go_simp); (try with_reducible rfl))
                          (try simp only [Act.put, List.setIfInBounds_toArray, List.set_cons_zero, List.set_cons_succ])
                          refine wpAnyZ_all (rs := [7]) (by kernel_rfl) (by simp) (fun i hi => ?_)
                          simp only [List.mem_cons, List.not_mem_nil, or_false] at hi
                          subst hi
                          clear hbd
                          refine stepZ (o := { dst := some 159, op := _, type := _, pos := _, after := _, guard := _ }) rfl (fun K hK => ?_)
                          go_simp
                          obtain ⟨gl, hgl⟩ : ∃ x, (we4).heap.size = x := ⟨_, rfl⟩
                          obtain ⟨wl, hwl⟩ : ∃ x, (we4).alloc (.cells #[.string nm, .bool bd] 85) = x := ⟨_, rfl⟩
                          have ll : Later we4 wl := hwl ▸ Later.new _ _
                          have hlit : Has wl (some ⟨gl, 0, none⟩) [.string nm, .bool bd] := hwl ▸ (Blk.new we4 [.string nm, .bool bd].toArray 85 gl hgl.symm).has
                          try rw [hgl]
                          rw [hwl]
                          have HP := Lib.hid (HP.out.later ll)
                          have HBL := Lib.hid (HBL.out.later ll)
                          have HOWN := Lib.hid (own_later HOWN.out ll)
                          have hS : (fun W : World => Far2 g g5 wx W ∧ W.cell? ⟨g5, 3, none⟩ = some (.slice Kk kn kc)) wl := ⟨hS.1.later ll, (HBL.out.cell 3 _ rfl)⟩
                          refine hK _ _ hS ?_
                          clear hK hwl ll hgl
                          (try simp only [Act.put, List.setIfInBounds_toArray, List.set_cons_zero, List.set_cons_succ])
                          refine wpAnyZ_all (rs := [8]) (by kernel_rfl) (by simp) (fun i hi => ?_)
                          simp only [List.mem_cons, List.not_mem_nil, or_false] at hi
                          subst hi
                          refine stepZ (o := { dst := some 160, op := _, type := _, pos := _, after := _, guard := _ }) rfl (fun K hK => ?_)
                          refine step_append_x rfl (.tmp 153) (.tmp 159) 43 rfl wx.heap.size 85 _ 2 24 Tryd.underlying43 info_k rfl (by decide) _ kn (fk ky) rfl HOWN.out gl 0 1 1 (fk [(nm, bd)]) rfl hlit rfl (by intro u hu; simp [fk] at hu; rcases hu with rfl | rfl <;> rfl) (by unfold maxLen; omega) (by omega) hS.1.size ?_
                          rintro C' cc' wq ho hgr hbl hat hnl
                          have hb5 := (hbl.block g5 HLX.out.2 : wq.heap[g5]? = wl.heap[g5]?)
                          have B5 : Blk wq g5 #[.slice (some ⟨cb, coff, none⟩) cn cc, .slice T tn tc, .slice G gn gc, .slice Kk kn kc, .int .i64 z] 45 := hb5.trans HBL.out
                          have hS : (fun W : World => Far2 g g5 wx W ∧ W.cell? ⟨g5, 3, none⟩ = some (.slice Kk kn kc)) wq := ⟨hS.1.grown hbl, B5.cell 3 _ rfl⟩
                          refine hK _ _ hS ?_
                          have HO := Lib.hid ho
                          have HPQ := Lib.hid (HP.out.below hbl (by have := HLX.out; omega))
                          clear hK hlit ho hbl hb5
                          (try simp only [Act.put, List.setIfInBounds_toArray, List.set_cons_zero, List.set_cons_succ])
                          refine wpAnyZ_take (i := 9) (oi := { dst := some 161, op := _, type := _, pos := _, after := _, guard := _ }) (v := ?_) rfl (by kernel_rfl) (by kernel_rfl) (by kernel_rfl) (by kernel_rfl) (fun _ _ _ h => h) (Or.inl ⟨by rfl, ?_⟩) hS ?_
                          rotate_left
                          focus ((intro w hSw; (try dsimp only at hSw); obtain ⟨f, e0⟩ := hSw; go_simp); (try with_reducible rfl))
                          (try simp only [Act.put, List.setIfInBounds_toArray, List.set_cons_zero, List.set_cons_succ])
                          refine wpAnyZ_all (rs := [10]) (by kernel_rfl) (by simp) (fun i hi => ?_)
                          simp only [List.mem_cons, List.not_mem_nil, or_false] at hi
                          subst hi
                          refine stepZl (o := { dst := none, op := _, type := _, pos := _, after := _, guard := _ }) rfl (fun K hK => ?_)
                          have e0 := B5.cell 3 _ rfl
                          have y0 := B5.frozen 3
                          have B6 := B5.set_ 3 (.slice C' (kn + 1) cc')
                          have F6 := hS.1.set_ 3 (.slice C' (kn + 1) cc')
                          have P6 := HPQ.out.far (p := ⟨g5, 3, none⟩) HLX.out.1 (.slice C' (kn + 1) cc')
                          have O6 := own_block (w' := wq.setCell ⟨g5, 3, none⟩ (.slice C' (kn + 1) cc')) HO.out fun q hq => Below.heap_setCell wq ⟨g5, 3, none⟩ _ q (by have := (own_at HO.out hq).1; have := HLX.out; show q ≠ g5; omega)
                          obtain ⟨wz, hwz⟩ : ∃ x, wq.setCell ⟨g5, 3, none⟩ (.slice C' (kn + 1) cc') = x := ⟨_, rfl⟩
                          rw [hwz] at B6 F6 P6 O6
                          have HNEW := Lib.hid (show ∀ y : Int, y = ((k - 1 : Nat) : Int) → Q4 xs g A n c bs z g5 (.slice (some ⟨cb, coff, none⟩) cn cc) (.slice T tn tc) (.slice G gn gc) wx (.int .i64 y) wz from fun y hy => Q4.mk y (k - 1) (ky ++ [(nm, bd)]) C' (kn + 1) cc' hy (by omega) (by rw [List.length_append, ← HKN.out]; rfl) (by intro s hs; rcases List.mem_append.1 hs with h | h; exact HFK.out s h; rw [List.mem_singleton] at h; subst h; exact HNAME.out) F6 P6 B6 (by rw [fk_append]; exact O6) hnl)
                          clear B6 F6 P6 O6 hgr hat
                          go_simp
                          refine hK _ _ ?_
                          clear hK e0 y0 B5 hS hwz
                          (try simp only [Act.put, List.setIfInBounds_toArray, List.set_cons_zero, List.set_cons_succ])
                          refine wpAnyZ_done (by kernel_rfl) ?_ _
                          have hdec : (k : Int) - 1 = ((k - 1 : Nat) : Int) := by omega
                          have hwk : IntKind.i64.wrap ((k - 1 : Nat) : Int) = ((k - 1 : Nat) : Int) := IntWalk.i64_in _ ⟨by omega, by omega⟩
                          go_wp2_with fail
                          go_roundw
                          all_goals first
                            | exact HNEW.out _ (by omega)
                            | exact HNEW.out _ rfl
                            | (simp [intOf]; done)
                            | (simp [intOf]; omega)
                        · have hct : ¬ (0 : Int) < (cn : Int) := by omega
                          go_wp2_with fail
                          clear e0 e2
                          refine wp_region_Z (S := (fun W : World => Far2 g g5 wx W ∧ W.cell? ⟨g5, 3, none⟩ = some (.slice Kk kn kc))) 10 (by kernel_rfl) ?_
                          have hS : (fun W : World => Far2 g g5 wx W ∧ W.cell? ⟨g5, 3, none⟩ = some (.slice Kk kn kc)) (we2).drew := ⟨hS.1.later (Later.refl _).drew, hS.2⟩
                          have HP := Lib.hid (HP.out.later (Later.refl _).drew)
                          have HBL := Lib.hid (HBL.out.later (Later.refl _).drew)
                          have HOWN := Lib.hid (own_later HOWN.out (Later.refl _).drew)
                          obtain ⟨wd_, hwd⟩ : ∃ x, (we2).drew = x := ⟨_, rfl⟩
                          rw [hwd] at hS HP HBL HOWN ⊢
                          clear hwd
                          refine wpAnyZ_take (i := 0) (oi := { dst := some 152, op := _, type := _, pos := _, after := _, guard := _ }) (v := ?_) rfl (by kernel_rfl) (by kernel_rfl) (by kernel_rfl) (by kernel_rfl) (fun _ _ _ h => h) (Or.inl ⟨by rfl, ?_⟩) hS ?_
                          rotate_left
                          focus ((intro w hSw; (try dsimp only at hSw); obtain ⟨f, e0⟩ := hSw; go_simp); (try with_reducible rfl))
                          (try simp only [Act.put, List.setIfInBounds_toArray, List.set_cons_zero, List.set_cons_succ])
                          refine wpAnyZ_take (i := 1) (oi := { dst := some 153, op := _, type := _, pos := _, after := _, guard := _ }) (v := ?_) rfl (by kernel_rfl) (by kernel_rfl) (by kernel_rfl) (by kernel_rfl) (fun _ _ _ h => h) (Or.inl ⟨by rfl, ?_⟩) hS ?_
                          rotate_left
                          focus ((intro w hSw; (try dsimp only at hSw); obtain ⟨f, e0⟩ := hSw; go_simp); (try with_reducible rfl))
                          (try simp only [Act.put, List.setIfInBounds_toArray, List.set_cons_zero, List.set_cons_succ])
                          refine wpAnyZ_take (i := 2) (oi := { dst := some 154, op := _, type := _, pos := _, after := _, guard := _ }) (v := ?_) rfl (by kernel_rfl) (by kernel_rfl) (by kernel_rfl) (by kernel_rfl) (fun _ _ _ h => h) (Or.inl ⟨by rfl, ?_⟩) hS ?_
                          rotate_left
                          focus ((intro w hSw; (try dsimp only at hSw); obtain ⟨f, e0⟩ := hSw; go_simp); (try with_reducible rfl))
                          (try simp only [Act.put, List.setIfInBounds_toArray, List.set_cons_zero, List.set_cons_succ])
                          refine wpAnyZ_take (i := 3) (oi := { dst := some 155, op := _, type := _, pos := _, after := _, guard := _ }) (v := ?_) rfl (by kernel_rfl) (by kernel_rfl) (by kernel_rfl) (by kernel_rfl) (fun _ _ _ h => h) (Or.inl ⟨by rfl, ?_⟩) hS ?_
                          rotate_left
                          focus ((intro w hSw; (try dsimp only at hSw); obtain ⟨f, e0⟩ := hSw; go_simp); (try with_reducible rfl))
                          (try simp only [Act.put, List.setIfInBounds_toArray, List.set_cons_zero, List.set_cons_succ])
                          refine wpAnyZ_all (rs := [4]) (by kernel_rfl) (by simp) (fun i hi => ?_)
                          simp only [List.mem_cons, List.not_mem_nil, or_false] at hi
                          subst hi
                          refine stepZ (o := { dst := some 156, op := _, type := _, pos := _, after := _, guard := _ }) rfl (fun K hK => ?_)
                          go_simp
                          refine (num_any 2 g A n c bs wd_ (by omega) HCC.out HP.out).mono ?_
                          rintro e we4 ⟨rd, hrd, rfl, hp, hf⟩
                          have HP := Lib.hid hp
                          have HBL := Lib.hid (hf.blk HBL.out (by have := HLX.out; omega))
                          have HOWN := Lib.hid (hf.own (by have := HLX.out; omega) HOWN.out)
                          have hS : (fun W : World => Far2 g g5 wx W ∧ W.cell? ⟨g5, 3, none⟩ = some (.slice Kk kn kc)) we4 := ⟨hS.1.far hf, HBL.out.cell 3 _ rfl⟩
                          refine hK _ _ hS ?_
                          clear hK hp hf
                          (try simp only [Act.put, List.setIfInBounds_toArray, List.set_cons_zero, List.set_cons_succ])
                          obtain ⟨bd, hbd⟩ : ∃ b, ((rd : Int) == 0) = b := ⟨_, rfl⟩
                          refine wpAnyZ_take (i := 5) (oi := { dst := some 157, op := _, type := _, pos := _, after := _, guard := _ }) (v := ?_) rfl (by kernel_rfl) (by kernel_rfl) (by kernel_rfl) (by kernel_rfl) (fun _ _ _ h => h) (Or.inl ⟨by rfl, ?_⟩) hS ?_
                          rotate_left
                          focus ((intro w hSw; (try dsimp only at hSw); obtain ⟨f, e0⟩ := hSw; go_simp); (try with_reducible rfl))
                          (try simp only [Act.put, List.setIfInBounds_toArray, List.set_cons_zero, List.set_cons_succ])
                          refine wpAnyZ_take (i := 6) (oi := { dst := some 158, op := _, type := _, pos := _, after := _, guard := _ }) (v := ?_) rfl (by kernel_rfl) (by kernel_rfl) (by kernel_rfl) (by kernel_rfl) (fun _ _ _ h => h) (Or.inl ⟨by rfl, ?_⟩) hS ?_
                          rotate_left
                          focus ((intro w hSw; (try dsimp only at hSw); obtain ⟨f, e0⟩ := hSw; go_simp); (try with_reducible rfl))
                          (try simp only [Act.put, List.setIfInBounds_toArray, List.set_cons_zero, List.set_cons_succ])
                          refine wpAnyZ_all (rs := [7]) (by kernel_rfl) (by simp) (fun i hi => ?_)
                          simp only [List.mem_cons, List.not_mem_nil, or_false] at hi
                          subst hi
                          clear hbd
                          refine stepZ (o := { dst := some 159, op := _, type := _, pos := _, after := _, guard := _ }) rfl (fun K hK => ?_)
                          go_simp
                          obtain ⟨gl, hgl⟩ : ∃ x, (we4).heap.size = x := ⟨_, rfl⟩
                          obtain ⟨wl, hwl⟩ : ∃ x, (we4).alloc (.cells #[.string nm, .bool bd] 85) = x := ⟨_, rfl⟩
                          have ll : Later we4 wl := hwl ▸ Later.new _ _
                          have hlit : Has wl (some ⟨gl, 0, none⟩) [.string nm, .bool bd] := hwl ▸ (Blk.new we4 [.string nm, .bool bd].toArray 85 gl hgl.symm).has
                          try rw [hgl]
                          rw [hwl]
                          have HP := Lib.hid (HP.out.later ll)
                          have HBL := Lib.hid (HBL.out.later ll)
                          have HOWN := Lib.hid (own_later HOWN.out ll)
                          have hS : (fun W : World => Far2 g g5 wx W ∧ W.cell? ⟨g5, 3, none⟩ = some (.slice Kk kn kc)) wl := ⟨hS.1.later ll, (HBL.out.cell 3 _ rfl)⟩
                          refine hK _ _ hS ?_
                          clear hK hwl ll hgl
                          (try simp only [Act.put, List.setIfInBounds_toArray, List.set_cons_zero, List.set_cons_succ])
                          refine wpAnyZ_all (rs := [8]) (by kernel_rfl) (by simp) (fun i hi => ?_)
                          simp only [List.mem_cons, List.not_mem_nil, or_false] at hi
                          subst hi
                          refine stepZ (o := { dst := some 160, op := _, type := _, pos := _, after := _, guard := _ }) rfl (fun K hK => ?_)
                          refine step_append_x rfl (.tmp 153) (.tmp 159) 43 rfl wx.heap.size 85 _ 2 24 Tryd.underlying43 info_k rfl (by decide) _ kn (fk ky) rfl HOWN.out gl 0 1 1 (fk [(nm, bd)]) rfl hlit rfl (by intro u hu; simp [fk] at hu; rcases hu with rfl | rfl <;> rfl) (by unfold maxLen; omega) (by omega) hS.1.size ?_
                          rintro C' cc' wq ho hgr hbl hat hnl
                          have hb5 := (hbl.block g5 HLX.out.2 : wq.heap[g5]? = wl.heap[g5]?)
                          have B5 : Blk wq g5 #[.slice C cn cc, .slice T tn tc, .slice G gn gc, .slice Kk kn kc, .int .i64 z] 45 := hb5.trans HBL.out
                          have hS : (fun W : World => Far2 g g5 wx W ∧ W.cell? ⟨g5, 3, none⟩ = some (.slice Kk kn kc)) wq := ⟨hS.1.grown hbl, B5.cell 3 _ rfl⟩
                          refine hK _ _ hS ?_
                          have HO := Lib.hid ho
                          have HPQ := Lib.hid (HP.out.below hbl (by have := HLX.out; omega))
                          clear hK hlit ho hbl hb5
                          (try simp only [Act.put, List.setIfInBounds_toArray, List.set_cons_zero, List.set_cons_succ])
                          refine wpAnyZ_take (i := 9) (oi := { dst := some 161, op := _, type := _, pos := _, after := _, guard := _ }) (v := ?_) rfl (by kernel_rfl) (by kernel_rfl) (by kernel_rfl) (by kernel_rfl) (fun _ _ _ h => h) (Or.inl ⟨by rfl, ?_⟩) hS ?_
                          rotate_left
                          focus ((intro w hSw; (try dsimp only at hSw); obtain ⟨f, e0⟩ := hSw; go_simp); (try with_reducible rfl))
                          (try simp only [Act.put, List.setIfInBounds_toArray, List.set_cons_zero, List.set_cons_succ])
                          refine wpAnyZ_all (rs := [10]) (by kernel_rfl) (by simp) (fun i hi => ?_)
                          simp only [List.mem_cons, List.not_mem_nil, or_false] at hi
                          subst hi
                          refine stepZl (o := { dst := none, op := _, type := _, pos := _, after := _, guard := _ }) rfl (fun K hK => ?_)
                          have e0 := B5.cell 3 _ rfl
                          have y0 := B5.frozen 3
                          have B6 := B5.set_ 3 (.slice C' (kn + 1) cc')
                          have F6 := hS.1.set_ 3 (.slice C' (kn + 1) cc')
                          have P6 := HPQ.out.far (p := ⟨g5, 3, none⟩) HLX.out.1 (.slice C' (kn + 1) cc')
                          have O6 := own_block (w' := wq.setCell ⟨g5, 3, none⟩ (.slice C' (kn + 1) cc')) HO.out fun q hq => Below.heap_setCell wq ⟨g5, 3, none⟩ _ q (by have := (own_at HO.out hq).1; have := HLX.out; show q ≠ g5; omega)
                          obtain ⟨wz, hwz⟩ : ∃ x, wq.setCell ⟨g5, 3, none⟩ (.slice C' (kn + 1) cc') = x := ⟨_, rfl⟩
                          rw [hwz] at B6 F6 P6 O6
                          have HNEW := Lib.hid (show ∀ y : Int, y = ((k - 1 : Nat) : Int) → Q4 xs g A n c bs z g5 (.slice C cn cc) (.slice T tn tc) (.slice G gn gc) wx (.int .i64 y) wz from fun y hy => Q4.mk y (k - 1) (ky ++ [(nm, bd)]) C' (kn + 1) cc' hy (by omega) (by rw [List.length_append, ← HKN.out]; rfl) (by intro s hs; rcases List.mem_append.1 hs with h | h; exact HFK.out s h; rw [List.mem_singleton] at h; subst h; exact HNAME.out) F6 P6 B6 (by rw [fk_append]; exact O6) hnl)
                          clear B6 F6 P6 O6 hgr hat
                          go_simp
                          refine hK _ _ ?_
                          clear hK e0 y0 B5 hS hwz
                          (try simp only [Act.put, List.setIfInBounds_toArray, List.set_cons_zero, List.set_cons_succ])
                          refine wpAnyZ_done (by kernel_rfl) ?_ _
                          have hdec : (k : Int) - 1 = ((k - 1 : Nat) : Int) := by omega
                          have hwk : IntKind.i64.wrap ((k - 1 : Nat) : Int) = ((k - 1 : Nat) : Int) := IntWalk.i64_in _ ⟨by omega, by omega⟩
                          go_wp2_with fail
                          go_roundw
                          all_goals first
                            | exact HNEW.out _ (by omega)
                            | exact HNEW.out _ rfl
                            | (simp [intOf]; done)
                            | (simp [intOf]; omega)
                      · have hgt : ¬ (0 : Int) < ((gn : Nat) : Int) := by omega
                        go_wp2_with fail
                        clear e0 e2
                        refine wp_region_Z (S := (fun W : World => Far2 g g5 wx W ∧ W.cell? ⟨g5, 3, none⟩ = some (.slice Kk kn kc))) 10 (by kernel_rfl) ?_
                        have hS : (fun W : World => Far2 g g5 wx W ∧ W.cell? ⟨g5, 3, none⟩ = some (.slice Kk kn kc)) (we2).drew := ⟨hS.1.later (Later.refl _).drew, hS.2⟩
                        have HP := Lib.hid (HP.out.later (Later.refl _).drew)
                        have HBL := Lib.hid (HBL.out.later (Later.refl _).drew)
                        have HOWN := Lib.hid (own_later HOWN.out (Later.refl _).drew)
                        obtain ⟨wd_, hwd⟩ : ∃ x, (we2).drew = x := ⟨_, rfl⟩
                        rw [hwd] at hS HP HBL HOWN ⊢
                        clear hwd
                        refine wpAnyZ_take (i := 0) (oi := { dst := some 152, op := _, type := _, pos := _, after := _, guard := _ }) (v := ?_) rfl (by kernel_rfl) (by kernel_rfl) (by kernel_rfl) (by kernel_rfl) (fun _ _ _ h => h) (Or.inl ⟨by rfl, ?_⟩) hS ?_
                        rotate_left
                        focus ((intro w hSw; (try dsimp only at hSw); obtain ⟨f, e0⟩ := hSw; go_simp); (try with_reducible rfl))
                        (try simp only [Act.put, List.setIfInBounds_toArray, List.set_cons_zero, List.set_cons_succ])
                        refine wpAnyZ_take (i := 1) (oi := { dst := some 153, op := _, type := _, pos := _, after := _, guard := _ }) (v := ?_) rfl (by kernel_rfl) (by kernel_rfl) (by kernel_rfl) (by kernel_rfl) (fun _ _ _ h => h) (Or.inl ⟨by rfl, ?_⟩) hS ?_
                        rotate_left
                        focus ((intro w hSw; (try dsimp only at hSw); obtain ⟨f, e0⟩ := hSw; go_simp); (try with_reducible rfl))
                        (try simp only [Act.put, List.setIfInBounds_toArray, List.set_cons_zero, List.set_cons_succ])
                        refine wpAnyZ_take (i := 2) (oi := { dst := some 154, op := _, type := _, pos := _, after := _, guard := _ }) (v := ?_) rfl (by kernel_rfl) (by kernel_rfl) (by kernel_rfl) (by kernel_rfl) (fun _ _ _ h => h) (Or.inl ⟨by rfl, ?_⟩) hS ?_
                        rotate_left
                        focus ((intro w hSw; (try dsimp only at hSw); obtain ⟨f, e0⟩ := hSw; go_simp); (try with_reducible rfl))
                        (try simp only [Act.put, List.setIfInBounds_toArray, List.set_cons_zero, List.set_cons_succ])
                        refine wpAnyZ_take (i := 3) (oi := { dst := some 155, op := _, type := _, pos := _, after := _, guard := _ }) (v := ?_) rfl (by kernel_rfl) (by kernel_rfl) (by kernel_rfl) (by kernel_rfl) (fun _ _ _ h => h) (Or.inl ⟨by rfl, ?_⟩) hS ?_
                        rotate_left
                        focus ((intro w hSw; (try dsimp only at hSw); obtain ⟨f, e0⟩ := hSw; go_simp); (try with_reducible rfl))
                        (try simp only [Act.put, List.setIfInBounds_toArray, List.set_cons_zero, List.set_cons_succ])
                        refine wpAnyZ_all (rs := [4]) (by kernel_rfl) (by simp) (fun i hi => ?_)
                        simp only [List.mem_cons, List.not_mem_nil, or_false] at hi
                        subst hi
                        refine stepZ (o := { dst := some 156, op := _, type := _, pos := _, after := _, guard := _ }) rfl (fun K hK => ?_)
                        go_simp
                        refine (num_any 2 g A n c bs wd_ (by omega) HCC.out HP.out).mono ?_
                        rintro e we4 ⟨rd, hrd, rfl, hp, hf⟩
                        have HP := Lib.hid hp
                        have HBL := Lib.hid (hf.blk HBL.out (by have := HLX.out; omega))
                        have HOWN := Lib.hid (hf.own (by have := HLX.out; omega) HOWN.out)
                        have hS : (fun W : World => Far2 g g5 wx W ∧ W.cell? ⟨g5, 3, none⟩ = some (.slice Kk kn kc)) we4 := ⟨hS.1.far hf, HBL.out.cell 3 _ rfl⟩
                        refine hK _ _ hS ?_
                        clear hK hp hf
                        (try simp only [Act.put, List.setIfInBounds_toArray, List.set_cons_zero, List.set_cons_succ])
                        obtain ⟨bd, hbd⟩ : ∃ b, ((rd : Int) == 0) = b := ⟨_, rfl⟩
                        refine wpAnyZ_take (i := 5) (oi := { dst := some 157, op := _, type := _, pos := _, after := _, guard := _ }) (v := ?_) rfl (by kernel_rfl) (by kernel_rfl) (by kernel_rfl) (by kernel_rfl) (fun _ _ _ h => h) (Or.inl ⟨by rfl, ?_⟩) hS ?_
                        rotate_left
                        focus ((intro w hSw; (try dsimp only at hSw); obtain ⟨f, e0⟩ := hSw; go_simp); (try with_reducible rfl))
                        (try simp only [Act.put, List.setIfInBounds_toArray, List.set_cons_zero, List.set_cons_succ])
                        refine wpAnyZ_take (i := 6) (oi := { dst := some 158, op := _, type := _, pos := _, after := _, guard := _ }) (v := ?_) rfl (by kernel_rfl) (by kernel_rfl) (by kernel_rfl) (by kernel_rfl) (fun _ _ _ h => h) (Or.inl ⟨by rfl, ?_⟩) hS ?_
                        rotate_left
                        focus ((intro w hSw; (try dsimp only at hSw); obtain ⟨f, e0⟩ := hSw; go_simp); (try with_reducible rfl))
                        (try simp only [Act.put, List.setIfInBounds_toArray, List.set_cons_zero, List.set_cons_succ])
                        refine wpAnyZ_all (rs := [7]) (by kernel_rfl) (by simp) (fun i hi => ?_)
                        simp only [List.mem_cons, List.not_mem_nil, or_false] at hi
                        subst hi
                        clear hbd
                        refine stepZ (o := { dst := some 159, op := _, type := _, pos := _, after := _, guard := _ }) rfl (fun K hK => ?_)
                        go_simp
                        obtain ⟨gl, hgl⟩ : ∃ x, (we4).heap.size = x := ⟨_, rfl⟩
                        obtain ⟨wl, hwl⟩ : ∃ x, (we4).alloc (.cells #[.string nm, .bool bd] 85) = x := ⟨_, rfl⟩
                        have ll : Later we4 wl := hwl ▸ Later.new _ _
                        have hlit : Has wl (some ⟨gl, 0, none⟩) [.string nm, .bool bd] := hwl ▸ (Blk.new we4 [.string nm, .bool bd].toArray 85 gl hgl.symm).has
                        try rw [hgl]
                        rw [hwl]
                        have HP := Lib.hid (HP.out.later ll)
                        have HBL := Lib.hid (HBL.out.later ll)
                        have HOWN := Lib.hid (own_later HOWN.out ll)
                        have hS : (fun W : World => Far2 g g5 wx W ∧ W.cell? ⟨g5, 3, none⟩ = some (.slice Kk kn kc)) wl := ⟨hS.1.later ll, (HBL.out.cell 3 _ rfl)⟩
                        refine hK _ _ hS ?_
                        clear hK hwl ll hgl
                        (try simp only [Act.put, List.setIfInBounds_toArray, List.set_cons_zero, List.set_cons_succ])
                        refine wpAnyZ_all (rs := [8]) (by kernel_rfl) (by simp) (fun i hi => ?_)
                        simp only [List.mem_cons, List.not_mem_nil, or_false] at hi
                        subst hi
                        refine stepZ (o := { dst := some 160, op := _, type := _, pos := _, after := _, guard := _ }) rfl (fun K hK => ?_)
                        refine step_append_x rfl (.tmp 153) (.tmp 159) 43 rfl wx.heap.size 85 _ 2 24 Tryd.underlying43 info_k rfl (by decide) _ kn (fk ky) rfl HOWN.out gl 0 1 1 (fk [(nm, bd)]) rfl hlit rfl (by intro u hu; simp [fk] at hu; rcases hu with rfl | rfl <;> rfl) (by unfold maxLen; omega) (by omega) hS.1.size ?_
                        rintro C' cc' wq ho hgr hbl hat hnl
                        have hb5 := (hbl.block g5 HLX.out.2 : wq.heap[g5]? = wl.heap[g5]?)
                        have B5 : Blk wq g5 #[.slice C cn cc, .slice T tn tc, .slice G gn gc, .slice Kk kn kc, .int .i64 z] 45 := hb5.trans HBL.out
                        have hS : (fun W : World => Far2 g g5 wx W ∧ W.cell? ⟨g5, 3, none⟩ = some (.slice Kk kn kc)) wq := ⟨hS.1.grown hbl, B5.cell 3 _ rfl⟩
                        refine hK _ _ hS ?_
                        have HO := Lib.hid ho
                        have HPQ := Lib.hid (HP.out.below hbl (by have := HLX.out; omega))
                        clear hK hlit ho hbl hb5
                        (try simp only [Act.put, List.setIfInBounds_toArray, List.set_cons_zero, List.set_cons_succ])
                        refine wpAnyZ_take (i := 9) (oi := { dst := some 161, op := _, type := _, pos := _, after := _, guard := _ }) (v := ?_) rfl (by kernel_rfl) (by kernel_rfl) (by kernel_rfl) (by kernel_rfl) (fun _ _ _ h => h) (Or.inl ⟨by rfl, ?_⟩) hS ?_
                        rotate_left
                        focus ((intro w hSw; (try dsimp only at hSw); obtain ⟨f, e0⟩ := hSw; go_simp); (try with_reducible rfl))
                        (try simp only [Act.put, List.setIfInBounds_toArray, List.set_cons_zero, List.set_cons_succ])
                        refine wpAnyZ_all (rs := [10]) (by kernel_rfl) (by simp) (fun i hi => ?_)
                        simp only [List.mem_cons, List.not_mem_nil, or_false] at hi
                        subst hi
                        refine stepZl (o := { dst := none, op := _, type := _, pos := _, after := _, guard := _ }) rfl (fun K hK => ?_)
                        have e0 := B5.cell 3 _ rfl
                        have y0 := B5.frozen 3
                        have B6 := B5.set_ 3 (.slice C' (kn + 1) cc')
                        have F6 := hS.1.set_ 3 (.slice C' (kn + 1) cc')
                        have P6 := HPQ.out.far (p := ⟨g5, 3, none⟩) HLX.out.1 (.slice C' (kn + 1) cc')
                        have O6 := own_block (w' := wq.setCell ⟨g5, 3, none⟩ (.slice C' (kn + 1) cc')) HO.out fun q hq => Below.heap_setCell wq ⟨g5, 3, none⟩ _ q (by have := (own_at HO.out hq).1; have := HLX.out; show q ≠ g5; omega)
                        obtain ⟨wz, hwz⟩ : ∃ x, wq.setCell ⟨g5, 3, none⟩ (.slice C' (kn + 1) cc') = x := ⟨_, rfl⟩
                        rw [hwz] at B6 F6 P6 O6
                        have HNEW := Lib.hid (show ∀ y : Int, y = ((k - 1 : Nat) : Int) → Q4 xs g A n c bs z g5 (.slice C cn cc) (.slice T tn tc) (.slice G gn gc) wx (.int .i64 y) wz from fun y hy => Q4.mk y (k - 1) (ky ++ [(nm, bd)]) C' (kn + 1) cc' hy (by omega) (by rw [List.length_append, ← HKN.out]; rfl) (by intro s hs; rcases List.mem_append.1 hs with h | h; exact HFK.out s h; rw [List.mem_singleton] at h; subst h; exact HNAME.out) F6 P6 B6 (by rw [fk_append]; exact O6) hnl)
                        clear B6 F6 P6 O6 hgr hat
                        go_simp
                        refine hK _ _ ?_
                        clear hK e0 y0 B5 hS hwz
                        (try simp only [Act.put, List.setIfInBounds_toArray, List.set_cons_zero, List.set_cons_succ])
                        refine wpAnyZ_done (by kernel_rfl) ?_ _
                        have hdec : (k : Int) - 1 = ((k - 1 : Nat) : Int) := by omega
                        have hwk : IntKind.i64.wrap ((k - 1 : Nat) : Int) = ((k - 1 : Nat) : Int) := IntWalk.i64_in _ ⟨by omega, by omega⟩
                        go_wp2_with fail
                        go_roundw
                        all_goals first
                          | exact HNEW.out _ (by omega)
                          | exact HNEW.out _ rfl
                          | (simp [intOf]; done)
                          | (simp [intOf]; omega)
                    · have hk0' : k = 0 := by omega
                      subst hk0'
                      have HKN := Lib.hid (show kn = ky.length ∧ kn ≤ 2 from ⟨HKN.out, by omega⟩)
                      have FZ := Lib.hid (FW.out.trans f6)
                      have hw0 : w.heap.size + 2 ≤ w3.heap.size := by have := HL3.out; have := HG5.out; omega
                      have RS := Lib.hid (show QE w g A n c bs C cn cc ns T tn tc l G (gn) gc (ag) Kk kn kc ky wr from ⟨HP.out, FZ.out.to HF3.out (by have := HG5.out; omega), own_low (f6.own (by have := HL3.out; omega) HC.out) hw0, own_low (f6.own (by have := HLB.out; omega) HT.out) (by have := HFB.out.size; omega), own_low (f6.own (by have := HL3.out; omega) HG4.out) hw0, own_low HOWN.out (by have := FW.out.size; omega)⟩)
                      have B := FZ.out.blk HR3.out (by have := HG.out; omega) (by have := HG5.out; omega)
                      have q0 := HBL.out.cell 0 _ rfl
                      have q1 := HBL.out.cell 1 _ rfl
                      have q2 := HBL.out.cell 2 _ rfl
                      have q3 := HBL.out.cell 3 _ rfl
                      have q4 := HBL.out.cell 4 _ rfl
                      have x0 := B.cell 0 _ rfl
                      have y0 := B.frozen 0
                      have B := B.set_ 0 (.slice C cn cc)
                      have RS := Lib.hid (RS.out.set_ (h1 := h0 + 1) (by omega) 0 (.slice C cn cc))
                      obtain ⟨wv0, hwv0⟩ : ∃ x, (wr).setCell ⟨h0 + 1, 0, none⟩ (.slice C cn cc) = x := ⟨_, rfl⟩
                      rw [hwv0] at B RS
                      have x1 := B.cell 1 _ rfl
                      have y1 := B.frozen 1
                      have B := B.set_ 1 (.slice T tn tc)
                      have RS := Lib.hid (RS.out.set_ (h1 := h0 + 1) (by omega) 1 (.slice T tn tc))
                      obtain ⟨wv1, hwv1⟩ : ∃ x, (wv0).setCell ⟨h0 + 1, 1, none⟩ (.slice T tn tc) = x := ⟨_, rfl⟩
                      rw [hwv1] at B RS
                      have x2 := B.cell 2 _ rfl
                      have y2 := B.frozen 2
                      have B := B.set_ 2 (.slice G gn gc)
                      have RS := Lib.hid (RS.out.set_ (h1 := h0 + 1) (by omega) 2 (.slice G gn gc))
                      obtain ⟨wv2, hwv2⟩ : ∃ x, (wv1).setCell ⟨h0 + 1, 2, none⟩ (.slice G gn gc) = x := ⟨_, rfl⟩
                      rw [hwv2] at B RS
                      have x3 := B.cell 3 _ rfl
                      have y3 := B.frozen 3
                      have B := B.set_ 3 (.slice Kk kn kc)
                      have RS := Lib.hid (RS.out.set_ (h1 := h0 + 1) (by omega) 3 (.slice Kk kn kc))
                      obtain ⟨wv3, hwv3⟩ : ∃ x, (wv2).setCell ⟨h0 + 1, 3, none⟩ (.slice Kk kn kc) = x := ⟨_, rfl⟩
                      rw [hwv3] at B RS
                      have x4 := B.cell 4 _ rfl
                      have y4 := B.frozen 4
                      have B := B.set_ 4 (.int .i64 z)
                      have RS := Lib.hid (RS.out.set_ (h1 := h0 + 1) (by omega) 4 (.int .i64 z))
                      obtain ⟨wv4, hwv4⟩ : ∃ x, (wv3).setCell ⟨h0 + 1, 4, none⟩ (.int .i64 z) = x := ⟨_, rfl⟩
                      rw [hwv4] at B RS
                      clear f6
                      go_wp2_with fail
                      (try simp only [Exit.inBlock, Exit.then])
                      refine bodyPost_ret (results_cell_row rfl _ _ (h0 + 1) _ _ _ _ rfl B Tryd.underlying45 rfl (by kernel_rfl)) rfl ?_
                      exact ⟨C, cn, cc, ns, T, tn, tc, l, G, gn, gc, ag, Kk, kn, kc, ky, z, rfl, ⟨HCN.out, HNS.out, HCNIL.out⟩, ⟨HTN.out, HFT.out, HTNIL.out⟩, HAG.out, ⟨HKN.out, HFK.out, HKNIL.out⟩, HZ.out, RS.out⟩
          · have hraf : ((ra : Int) == 0) = false := by rw [beq_eq_false_iff_ne]; omega
            have HG4 := Lib.hid (ownG_nil _ _ _ _ : wc.ownsRow w3.heap.size 83 2 (.slice none 0 0) 0 (fa []))
            go_wp2_with fail
            refine (num_any 3 g A n c bs wc (by omega) HCC.out HP.out).mono ?_
            rintro e wx ⟨rx, hrx, rfl, hp, hf⟩
            have HP := Lib.hid hp
            have FW := Lib.hid (FW.out.far hf)
            have HB5 := Lib.hid (hf.blk HB5.out (by have := HL3.out; omega))
            have HC := Lib.hid (hf.own (by have := HL3.out; have := HL3.out; omega) HC.out)
            have HT := Lib.hid (hf.own (by have := HL3.out; have := HLB.out; omega) HT.out)
            have HG4 := Lib.hid (hf.own (by have := HL3.out; have := HL3.out; omega) HG4.out)
            clear hp hf
            have HLX := Lib.hid (show g < g5 ∧ g5 < wx.heap.size from ⟨HL3.out.1, HB5.out.lt⟩)
            have HM0 := Lib.hid (Q4.mk (xs := xs) (g := g) (A := A) (n := n) (c := c) (bs := bs) (z := z) (g5 := g5) (cv := .slice C cn cc) (tv := .slice T tn tc) (gv := .slice none 0 0) (w0 := wx) (wr := wx) rx rx [] none 0 0 rfl (by omega) rfl (fun s hs => by cases hs) (Far2.refl HLX.out) HP.out HB5.out (ownG_nil _ _ _ _) (fun _ => rfl))
            clear HB5 HP
            go_wp2_with fail
            go_loopw [10] (fun iv wr => Q4 xs g A n c bs z g5 (.slice C cn cc) (.slice T tn tc) (.slice none 0 0) wx iv wr) (fun i _ => (intOf i).toNat)
            case atStart => exact HM0.out
            case round =>
              obtain ⟨k, ky, Kk, kn, kc, rfl, hk, hkn, hfk, f6, hpk, hbl, hown, hkc⟩ := hrel
              have HFK := Lib.hid hfk
              have HKN := Lib.hid hkn
              have HKNIL := Lib.hid hkc
              have HP := Lib.hid hpk
              have HBL := Lib.hid hbl
              have HOWN := Lib.hid hown
              clear HM0 hfk hkc hpk hkn hbl hown
              by_cases hk0 : 0 < k
              · have hkk : (0 : Int) < (k : Int) := by omega
                have hS : (fun W : World => Far2 g g5 wx W ∧ W.cell? ⟨g5, 3, none⟩ = some (.slice Kk kn kc)) wr := ⟨f6, HBL.out.cell 3 _ rfl⟩
                clear f6
                go_wp2_with fail
                refine wp_region_Z (S := (fun W : World => Far2 g g5 wx W ∧ W.cell? ⟨g5, 3, none⟩ = some (.slice Kk kn kc))) 10 (by kernel_rfl) ?_
                have hS : (fun W : World => Far2 g g5 wx W ∧ W.cell? ⟨g5, 3, none⟩ = some (.slice Kk kn kc)) (wr).drew := ⟨hS.1.later (Later.refl _).drew, hS.2⟩
                have HP := Lib.hid (HP.out.later (Later.refl _).drew)
                have HBL := Lib.hid (HBL.out.later (Later.refl _).drew)
                have HOWN := Lib.hid (own_later HOWN.out (Later.refl _).drew)
                obtain ⟨wd_, hwd⟩ : ∃ x, (wr).drew = x := ⟨_, rfl⟩
                rw [hwd] at hS HP HBL HOWN ⊢
                clear hwd
                refine wpAnyZ_take (i := 0) (oi := { dst := some 123, op := _, type := _, pos := _, after := _, guard := _ }) (v := ?_) rfl (by kernel_rfl) (by kernel_rfl) (by kernel_rfl) (by kernel_rfl) (fun _ _ _ h => h) (Or.inl ⟨by rfl, ?_⟩) hS ?_
                rotate_left
                focus ((intro w hSw; (try dsimp only at hSw); obtain ⟨f, e0⟩ := hSw; have d0 := HSC.out w (FW.out.trans f); go_simp); (try with_reducible rfl))
                (try simp only [Act.put, List.setIfInBounds_toArray, List.set_cons_zero, List.set_cons_succ])
                refine wpAnyZ_take (i := 1) (oi := { dst := some 124, op := _, type := _, pos := _, after := _, guard := _ }) (v := ?_) rfl (by kernel_rfl) (by kernel_rfl) (by kernel_rfl) (by kernel_rfl) (fun _ _ _ h => h) (Or.inl ⟨by rfl, ?_⟩) hS ?_
                rotate_left
                focus ((intro w hSw; (try dsimp only at hSw); obtain ⟨f, e0⟩ := hSw; have d0 := HSC.out w (FW.out.trans f); go_simp); (try with_reducible rfl))
                (try simp only [Act.put, List.setIfInBounds_toArray, List.set_cons_zero, List.set_cons_succ])
                refine wpAnyZ_take (i := 2) (oi := { dst := some 125, op := _, type := _, pos := _, after := _, guard := _ }) (v := ?_) rfl (by kernel_rfl) (by kernel_rfl) (by kernel_rfl) (by kernel_rfl) (fun _ _ _ h => h) (Or.inl ⟨by rfl, ?_⟩) hS ?_
                rotate_left
                focus ((intro w hSw; (try dsimp only at hSw); obtain ⟨f, e0⟩ := hSw; have d0 := HSC.out w (FW.out.trans f); go_simp); (try with_reducible rfl))
                (try simp only [Act.put, List.setIfInBounds_toArray, List.set_cons_zero, List.set_cons_succ])
                refine wpAnyZ_take (i := 3) (oi := { dst := some 126, op := _, type := _, pos := _, after := _, guard := _ }) (v := ?_) rfl (by kernel_rfl) (by kernel_rfl) (by kernel_rfl) (by kernel_rfl) (fun _ _ _ h => h) (Or.inl ⟨by rfl, ?_⟩) hS ?_
                rotate_left
                focus ((intro w hSw; (try dsimp only at hSw); obtain ⟨f, e0⟩ := hSw; have d0 := HSC.out w (FW.out.trans f); go_simp); (try with_reducible rfl))
                (try simp only [Act.put, List.setIfInBounds_toArray, List.set_cons_zero, List.set_cons_succ])
                refine wpAnyZ_take (i := 4) (oi := { dst := some 127, op := _, type := _, pos := _, after := _, guard := _ }) (v := ?_) rfl (by kernel_rfl) (by kernel_rfl) (by kernel_rfl) (by kernel_rfl) (fun _ _ _ h => h) (Or.inl ⟨by rfl, ?_⟩) hS ?_
                rotate_left
                focus ((intro w hSw; (try dsimp only at hSw); obtain ⟨f, e0⟩ := hSw; have d0 := HSC.out w (FW.out.trans f); go_simp); (try with_reducible rfl))
                (try simp only [Act.put, List.setIfInBounds_toArray, List.set_cons_zero, List.set_cons_succ])
                refine wpAnyZ_take (i := 5) (oi := { dst := some 128, op := _, type := _, pos := _, after := _, guard := _ }) (v := ?_) rfl (by kernel_rfl) (by kernel_rfl) (by kernel_rfl) (by kernel_rfl) (fun _ _ _ h => h) (Or.inl ⟨by rfl, ?_⟩) hS ?_
                rotate_left
                focus ((intro w hSw; (try dsimp only at hSw); obtain ⟨f, e0⟩ := hSw; have d0 := HSC.out w (FW.out.trans f); go_simp); (try with_reducible rfl))
                (try simp only [Act.put, List.setIfInBounds_toArray, List.set_cons_zero, List.set_cons_succ])
                refine wpAnyZ_all (rs := [6]) (by kernel_rfl) (by simp) (fun i hi => ?_)
                simp only [List.mem_cons, List.not_mem_nil, or_false] at hi
                subst hi
                refine stepZ (o := { dst := some 129, op := _, type := _, pos := _, after := _, guard := _ }) rfl (fun K hK => ?_)
                go_simp
                refine (num_any vn g A n c bs wd_ (by omega) HCC.out HP.out).mono ?_
                rintro e we2 ⟨ry, hry, rfl, hp, hf⟩
                have HP := Lib.hid hp
                have HBL := Lib.hid (hf.blk HBL.out (by have := HLX.out; omega))
                have HOWN := Lib.hid (hf.own (by have := HLX.out; omega) HOWN.out)
                have hS : (fun W : World => Far2 g g5 wx W ∧ W.cell? ⟨g5, 3, none⟩ = some (.slice Kk kn kc)) we2 := ⟨hS.1.far hf, HBL.out.cell 3 _ rfl⟩
                refine hK _ _ hS ?_
                clear hK hp hf
                (try simp only [Act.put, List.setIfInBounds_toArray, List.set_cons_zero, List.set_cons_succ])
                have hrx : ry < xs.length := by have := HVN.out; omega
                have HXY := Lib.hid (fun W f => (HCK.out W (FW.out.trans f) ry hrx).1 : ∀ W, Far2 g g5 wx W → W.cell? ⟨vb, voff + ry * 3 + 1, none⟩ = some (.string xs[ry].2.1))
                have HMEM := Lib.hid (List.getElem_mem hrx)
                generalize xs[ry] = x at HXY HMEM
                obtain ⟨xi, nm, ty⟩ := x
                dsimp only at HXY
                have hrxl : (ry : Int) < (vn : Int) := by omega
                have hrx0 : (0 : Int) ≤ (ry : Int) := by omega
                clear hrx
                refine wpAnyZ_take (i := 7) (oi := { dst := some 130, op := _, type := _, pos := _, after := _, guard := _ }) (v := ?_) rfl (by kernel_rfl) (by kernel_rfl) (by kernel_rfl) (by kernel_rfl) (fun _ _ _ h => h) (Or.inl ⟨by rfl, ?_⟩) hS ?_
                rotate_left
                focus ((intro w hSw; (try dsimp only at hSw); obtain ⟨f, e0⟩ := hSw; have d0 := HSC.out w (FW.out.trans f); have d1 := HXY.out w f; go_simp); (try with_reducible rfl))
                (try simp only [Act.put, List.setIfInBounds_toArray, List.set_cons_zero, List.set_cons_succ])
                refine wpAnyZ_take (i := 8) (oi := { dst := some 131, op := _, type := _, pos := _, after := _, guard := _ }) (v := ?_) rfl (by kernel_rfl) (by kernel_rfl) (by kernel_rfl) (by kernel_rfl) (fun _ _ _ h => h) (Or.inl ⟨by rfl, ?_⟩) hS ?_
                rotate_left
                focus ((intro w hSw; (try dsimp only at hSw); obtain ⟨f, e0⟩ := hSw; have d0 := HSC.out w (FW.out.trans f); have d1 := HXY.out w f; go_simp); (try with_reducible rfl))
                (try simp only [Act.put, List.setIfInBounds_toArray, List.set_cons_zero, List.set_cons_succ])
                refine wpAnyZ_take (i := 9) (oi := { dst := some 132, op := _, type := _, pos := _, after := _, guard := _ }) (v := ?_) rfl (by kernel_rfl) (by kernel_rfl) (by kernel_rfl) (by kernel_rfl) (fun _ _ _ h => h) (Or.inl ⟨by rfl, ?_⟩) hS ?_
                rotate_left
                focus ((intro w hSw; (try dsimp only at hSw); obtain ⟨f, e0⟩ := hSw; have d0 := HSC.out w (FW.out.trans f); have d1 := HXY.out w f; go_simp); (try with_reducible rfl))
                (try simp only [Act.put, List.setIfInBounds_toArray, List.set_cons_zero, List.set_cons_succ])
                refine wpAnyZ_all (rs := [10]) (by kernel_rfl) (by simp) (fun i hi => ?_)
                simp only [List.mem_cons, List.not_mem_nil, or_false] at hi
                subst hi
                refine stepZl (o := { dst := some 11, op := _, type := _, pos := _, after := _, guard := _ }) rfl (fun K hK => ?_)
                go_simp
                refine hK _ _ ?_
                clear hK
                (try simp only [Act.put, List.setIfInBounds_toArray, List.set_cons_zero, List.set_cons_succ])
                refine wpAnyZ_done (by kernel_rfl) ?_ _
                have e0 := HBL.out.cell 0 _ rfl
                have e2 := HBL.out.cell 2 _ rfl
                have HNAME := Lib.hid (show ∃ c ∈ xs, nm = c.2.1 from ⟨_, HMEM.out, rfl⟩)
                go_wp2_with fail
                clear e0 e2
                refine wp_region_Z (S := (fun W : World => Far2 g g5 wx W ∧ W.cell? ⟨g5, 3, none⟩ = some (.slice Kk kn kc))) 10 (by kernel_rfl) ?_
                have hS : (fun W : World => Far2 g g5 wx W ∧ W.cell? ⟨g5, 3, none⟩ = some (.slice Kk kn kc)) (we2).drew := ⟨hS.1.later (Later.refl _).drew, hS.2⟩
                have HP := Lib.hid (HP.out.later (Later.refl _).drew)
                have HBL := Lib.hid (HBL.out.later (Later.refl _).drew)
                have HOWN := Lib.hid (own_later HOWN.out (Later.refl _).drew)
                obtain ⟨wd_, hwd⟩ : ∃ x, (we2).drew = x := ⟨_, rfl⟩
                rw [hwd] at hS HP HBL HOWN ⊢
                clear hwd
                refine wpAnyZ_take (i := 0) (oi := { dst := some 152, op := _, type := _, pos := _, after := _, guard := _ }) (v := ?_) rfl (by kernel_rfl) (by kernel_rfl) (by kernel_rfl) (by kernel_rfl) (fun _ _ _ h => h) (Or.inl ⟨by rfl, ?_⟩) hS ?_
                rotate_left
                focus ((intro w hSw; (try dsimp only at hSw); obtain ⟨f, e0⟩ := hSw; go_simp); (try with_reducible rfl))
                (try simp only [Act.put, List.setIfInBounds_toArray, List.set_cons_zero, List.set_cons_succ])
                refine wpAnyZ_take (i := 1) (oi := { dst := some 153, op := _, type := _, pos := _, after := _, guard := _ }) (v := ?_) rfl (by kernel_rfl) (by kernel_rfl) (by kernel_rfl) (by kernel_rfl) (fun _ _ _ h => h) (Or.inl ⟨by rfl, ?_⟩) hS ?_
                rotate_left
                focus ((intro w hSw; (try dsimp only at hSw); obtain ⟨f, e0⟩ := hSw; go_simp); (try with_reducible rfl))
                (try simp only [Act.put, List.setIfInBounds_toArray, List.set_cons_zero, List.set_cons_succ])
                refine wpAnyZ_take (i := 2) (oi := { dst := some 154, op := _, type := _, pos := _, after := _, guard := _ }) (v := ?_) rfl (by kernel_rfl) (by kernel_rfl) (by kernel_rfl) (by kernel_rfl) (fun _ _ _ h => h) (Or.inl ⟨by rfl, ?_⟩) hS ?_
                rotate_left
                focus ((intro w hSw; (try dsimp only at hSw); obtain ⟨f, e0⟩ := hSw; go_simp); (try with_reducible rfl))
                (try simp only [Act.put, List.setIfInBounds_toArray, List.set_cons_zero, List.set_cons_succ])
                refine wpAnyZ_take (i := 3) (oi := { dst := some 155, op := _, type := _, pos := _, after := _, guard := _ }) (v := ?_) rfl (by kernel_rfl) (by kernel_rfl) (by kernel_rfl) (by kernel_rfl) (fun _ _ _ h => h) (Or.inl ⟨by rfl, ?_⟩) hS ?_
                rotate_left
                focus ((intro w hSw; (try dsimp only at hSw); obtain ⟨f, e0⟩ := hSw; go_simp); (try with_reducible rfl))
                (try simp only [Act.put, List.setIfInBounds_toArray, List.set_cons_zero, List.set_cons_succ])
                refine wpAnyZ_all (rs := [4]) (by kernel_rfl) (by simp) (fun i hi => ?_)
                simp only [List.mem_cons, List.not_mem_nil, or_false] at hi
                subst hi
                refine stepZ (o := { dst := some 156, op := _, type := _, pos := _, after := _, guard := _ }) rfl (fun K hK => ?_)
                go_simp
                refine (num_any 2 g A n c bs wd_ (by omega) HCC.out HP.out).mono ?_
                rintro e we4 ⟨rd, hrd, rfl, hp, hf⟩
                have HP := Lib.hid hp
                have HBL := Lib.hid (hf.blk HBL.out (by have := HLX.out; omega))
                have HOWN := Lib.hid (hf.own (by have := HLX.out; omega) HOWN.out)
                have hS : (fun W : World => Far2 g g5 wx W ∧ W.cell? ⟨g5, 3, none⟩ = some (.slice Kk kn kc)) we4 := ⟨hS.1.far hf, HBL.out.cell 3 _ rfl⟩
                refine hK _ _ hS ?_
                clear hK hp hf
                (try simp only [Act.put, List.setIfInBounds_toArray, List.set_cons_zero, List.set_cons_succ])
                obtain ⟨bd, hbd⟩ : ∃ b, ((rd : Int) == 0) = b := ⟨_, rfl⟩
                refine wpAnyZ_take (i := 5) (oi := { dst := some 157, op := _, type := _, pos := _, after := _, guard := _ }) (v := ?_) rfl (by kernel_rfl) (by kernel_rfl) (by kernel_rfl) (by kernel_rfl) (fun _ _ _ h => h) (Or.inl ⟨by rfl, ?_⟩) hS ?_
                rotate_left
                focus ((intro w hSw; (try dsimp only at hSw); obtain ⟨f, e0⟩ := hSw; go_simp); (try with_reducible rfl))
                (try simp only [Act.put, List.setIfInBounds_toArray, List.set_cons_zero, List.set_cons_succ])
                refine wpAnyZ_take (i := 6) (oi := { dst := some 158, op := _, type := _, pos := _, after := _, guard := _ }) (v := ?_) rfl (by kernel_rfl) (by kernel_rfl) (by kernel_rfl) (by kernel_rfl) (fun _ _ _ h => h) (Or.inl ⟨by rfl, ?_⟩) hS ?_
                rotate_left
                focus ((intro w hSw; (try dsimp only at hSw); obtain ⟨f, e0⟩ := hSw; go_simp); (try with_reducible rfl))
                (try simp only [Act.put, List.setIfInBounds_toArray, List.set_cons_zero, List.set_cons_succ])
                refine wpAnyZ_all (rs := [7]) (by kernel_rfl) (by simp) (fun i hi => ?_)
                simp only [List.mem_cons, List.not_mem_nil, or_false] at hi
                subst hi
                clear hbd
                refine stepZ (o := { dst := some 159, op := _, type := _, pos := _, after := _, guard := _ }) rfl (fun K hK => ?_)
                go_simp
                obtain ⟨gl, hgl⟩ : ∃ x, (we4).heap.size = x := ⟨_, rfl⟩
                obtain ⟨wl, hwl⟩ : ∃ x, (we4).alloc (.cells #[.string nm, .bool bd] 85) = x := ⟨_, rfl⟩
                have ll : Later we4 wl := hwl ▸ Later.new _ _
                have hlit : Has wl (some ⟨gl, 0, none⟩) [.string nm, .bool bd] := hwl ▸ (Blk.new we4 [.string nm, .bool bd].toArray 85 gl hgl.symm).has
                try rw [hgl]
                rw [hwl]
                have HP := Lib.hid (HP.out.later ll)
                have HBL := Lib.hid (HBL.out.later ll)
                have HOWN := Lib.hid (own_later HOWN.out ll)
                have hS : (fun W : World => Far2 g g5 wx W ∧ W.cell? ⟨g5, 3, none⟩ = some (.slice Kk kn kc)) wl := ⟨hS.1.later ll, (HBL.out.cell 3 _ rfl)⟩
                refine hK _ _ hS ?_
                clear hK hwl ll hgl
                (try simp only [Act.put, List.setIfInBounds_toArray, List.set_cons_zero, List.set_cons_succ])
                refine wpAnyZ_all (rs := [8]) (by kernel_rfl) (by simp) (fun i hi => ?_)
                simp only [List.mem_cons, List.not_mem_nil, or_false] at hi
                subst hi
                refine stepZ (o := { dst := some 160, op := _, type := _, pos := _, after := _, guard := _ }) rfl (fun K hK => ?_)
                refine step_append_x rfl (.tmp 153) (.tmp 159) 43 rfl wx.heap.size 85 _ 2 24 Tryd.underlying43 info_k rfl (by decide) _ kn (fk ky) rfl HOWN.out gl 0 1 1 (fk [(nm, bd)]) rfl hlit rfl (by intro u hu; simp [fk] at hu; rcases hu with rfl | rfl <;> rfl) (by unfold maxLen; omega) (by omega) hS.1.size ?_
                rintro C' cc' wq ho hgr hbl hat hnl
                have hb5 := (hbl.block g5 HLX.out.2 : wq.heap[g5]? = wl.heap[g5]?)
                have B5 : Blk wq g5 #[.slice C cn cc, .slice T tn tc, .slice none 0 0, .slice Kk kn kc, .int .i64 z] 45 := hb5.trans HBL.out
                have hS : (fun W : World => Far2 g g5 wx W ∧ W.cell? ⟨g5, 3, none⟩ = some (.slice Kk kn kc)) wq := ⟨hS.1.grown hbl, B5.cell 3 _ rfl⟩
                refine hK _ _ hS ?_
                have HO := Lib.hid ho
                have HPQ := Lib.hid (HP.out.below hbl (by have := HLX.out; omega))
                clear hK hlit ho hbl hb5
                (try simp only [Act.put, List.setIfInBounds_toArray, List.set_cons_zero, List.set_cons_succ])
                refine wpAnyZ_take (i := 9) (oi := { dst := some 161, op := _, type := _, pos := _, after := _, guard := _ }) (v := ?_) rfl (by kernel_rfl) (by kernel_rfl) (by kernel_rfl) (by kernel_rfl) (fun _ _ _ h => h) (Or.inl ⟨by rfl, ?_⟩) hS ?_
                rotate_left
                focus ((intro w hSw; (try dsimp only at hSw); obtain ⟨f, e0⟩ := hSw; go_simp); (try with_reducible rfl))
                (try simp only [Act.put, List.setIfInBounds_toArray, List.set_cons_zero, List.set_cons_succ])
                refine wpAnyZ_all (rs := [10]) (by kernel_rfl) (by simp) (fun i hi => ?_)
                simp only [List.mem_cons, List.not_mem_nil, or_false] at hi
                subst hi
                refine stepZl (o := { dst := none, op := _, type := _, pos := _, after := _, guard := _ }) rfl (fun K hK => ?_)
                have e0 := B5.cell 3 _ rfl
                have y0 := B5.frozen 3
                have B6 := B5.set_ 3 (.slice C' (kn + 1) cc')
                have F6 := hS.1.set_ 3 (.slice C' (kn + 1) cc')
                have P6 := HPQ.out.far (p := ⟨g5, 3, none⟩) HLX.out.1 (.slice C' (kn + 1) cc')
                have O6 := own_block (w' := wq.setCell ⟨g5, 3, none⟩ (.slice C' (kn + 1) cc')) HO.out fun q hq => Below.heap_setCell wq ⟨g5, 3, none⟩ _ q (by have := (own_at HO.out hq).1; have := HLX.out; show q ≠ g5; omega)
                obtain ⟨wz, hwz⟩ : ∃ x, wq.setCell ⟨g5, 3, none⟩ (.slice C' (kn + 1) cc') = x := ⟨_, rfl⟩
                rw [hwz] at B6 F6 P6 O6
                have HNEW := Lib.hid (show ∀ y : Int, y = ((k - 1 : Nat) : Int) → Q4 xs g A n c bs z g5 (.slice C cn cc) (.slice T tn tc) (.slice none 0 0) wx (.int .i64 y) wz from fun y hy => Q4.mk y (k - 1) (ky ++ [(nm, bd)]) C' (kn + 1) cc' hy (by omega) (by rw [List.length_append, ← HKN.out]; rfl) (by intro s hs; rcases List.mem_append.1 hs with h | h; exact HFK.out s h; rw [List.mem_singleton] at h; subst h; exact HNAME.out) F6 P6 B6 (by rw [fk_append]; exact O6) hnl)
                clear B6 F6 P6 O6 hgr hat
                go_simp
                refine hK _ _ ?_
                clear hK e0 y0 B5 hS hwz
                (try simp only [Act.put, List.setIfInBounds_toArray, List.set_cons_zero, List.set_cons_succ])
                refine wpAnyZ_done (by kernel_rfl) ?_ _
                have hdec : (k : Int) - 1 = ((k - 1 : Nat) : Int) := by omega
                have hwk : IntKind.i64.wrap ((k - 1 : Nat) : Int) = ((k - 1 : Nat) : Int) := IntWalk.i64_in _ ⟨by omega, by omega⟩
                go_wp2_with fail
                go_roundw
                all_goals first
                  | exact HNEW.out _ (by omega)
                  | exact HNEW.out _ rfl
                  | (simp [intOf]; done)
                  | (simp [intOf]; omega)
              · have hk0' : k = 0 := by omega
                subst hk0'
                have HKN := Lib.hid (show kn = ky.length ∧ kn ≤ 2 from ⟨HKN.out, by omega⟩)
                have FZ := Lib.hid (FW.out.trans f6)
                have hw0 : w.heap.size + 2 ≤ w3.heap.size := by have := HL3.out; have := HG5.out; omega
                have RS := Lib.hid (show QE w g A n c bs C cn cc ns T tn tc l none (0) 0 ([]) Kk kn kc ky wr from ⟨HP.out, FZ.out.to HF3.out (by have := HG5.out; omega), own_low (f6.own (by have := HL3.out; omega) HC.out) hw0, own_low (f6.own (by have := HLB.out; omega) HT.out) (by have := HFB.out.size; omega), own_low (f6.own (by have := HL3.out; omega) HG4.out) hw0, own_low HOWN.out (by have := FW.out.size; omega)⟩)
                have B := FZ.out.blk HR3.out (by have := HG.out; omega) (by have := HG5.out; omega)
                have q0 := HBL.out.cell 0 _ rfl
                have q1 := HBL.out.cell 1 _ rfl
                have q2 := HBL.out.cell 2 _ rfl
                have q3 := HBL.out.cell 3 _ rfl
                have q4 := HBL.out.cell 4 _ rfl
                have x0 := B.cell 0 _ rfl
                have y0 := B.frozen 0
                have B := B.set_ 0 (.slice C cn cc)
                have RS := Lib.hid (RS.out.set_ (h1 := h0 + 1) (by omega) 0 (.slice C cn cc))
                obtain ⟨wv0, hwv0⟩ : ∃ x, (wr).setCell ⟨h0 + 1, 0, none⟩ (.slice C cn cc) = x := ⟨_, rfl⟩
                rw [hwv0] at B RS
                have x1 := B.cell 1 _ rfl
                have y1 := B.frozen 1
                have B := B.set_ 1 (.slice T tn tc)
                have RS := Lib.hid (RS.out.set_ (h1 := h0 + 1) (by omega) 1 (.slice T tn tc))
                obtain ⟨wv1, hwv1⟩ : ∃ x, (wv0).setCell ⟨h0 + 1, 1, none⟩ (.slice T tn tc) = x := ⟨_, rfl⟩
                rw [hwv1] at B RS
                have x2 := B.cell 2 _ rfl
                have y2 := B.frozen 2
                have B := B.set_ 2 (.slice none 0 0)
                have RS := Lib.hid (RS.out.set_ (h1 := h0 + 1) (by omega) 2 (.slice none 0 0))
                obtain ⟨wv2, hwv2⟩ : ∃ x, (wv1).setCell ⟨h0 + 1, 2, none⟩ (.slice none 0 0) = x := ⟨_, rfl⟩
                rw [hwv2] at B RS
                have x3 := B.cell 3 _ rfl
                have y3 := B.frozen 3
                have B := B.set_ 3 (.slice Kk kn kc)
                have RS := Lib.hid (RS.out.set_ (h1 := h0 + 1) (by omega) 3 (.slice Kk kn kc))
                obtain ⟨wv3, hwv3⟩ : ∃ x, (wv2).setCell ⟨h0 + 1, 3, none⟩ (.slice Kk kn kc) = x := ⟨_, rfl⟩
                rw [hwv3] at B RS
                have x4 := B.cell 4 _ rfl
                have y4 := B.frozen 4
                have B := B.set_ 4 (.int .i64 z)
                have RS := Lib.hid (RS.out.set_ (h1 := h0 + 1) (by omega) 4 (.int .i64 z))
                obtain ⟨wv4, hwv4⟩ : ∃ x, (wv3).setCell ⟨h0 + 1, 4, none⟩ (.int .i64 z) = x := ⟨_, rfl⟩
                rw [hwv4] at B RS
                clear f6
                go_wp2_with fail
                (try simp only [Exit.inBlock, Exit.then])
                refine bodyPost_ret (results_cell_row rfl _ _ (h0 + 1) _ _ _ _ rfl B Tryd.underlying45 rfl (by kernel_rfl)) rfl ?_
                exact ⟨C, cn, cc, ns, T, tn, tc, l, none, 0, 0, [], Kk, kn, kc, ky, z, rfl, ⟨HCN.out, HNS.out, HCNIL.out⟩, ⟨HTN.out, HFT.out, HTNIL.out⟩, ⟨⟨rfl, by omega⟩, (fun s hs => by cases hs), fun _ => rfl⟩, ⟨HKN.out, HFK.out, HKNIL.out⟩, HZ.out, RS.out⟩
end Go.Proofs.YtkdpjocglfephaaDoor
