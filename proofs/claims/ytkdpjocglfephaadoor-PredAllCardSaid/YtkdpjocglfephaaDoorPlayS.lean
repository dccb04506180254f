
import Derived.Test.YtkdpjocglfephaaDoorPlayN
import Derived.Test.YtkdpjocglfephaaDoorBase
import Derived.Test.YtkdpjocglfephaaDoorPlayV
import Derived.Laws.Rows
import Derived.WalkKit
import Derived.Laws.OwnMore
import Derived.Laws.BytesArg
import Derived.Deep.AppendLies
import Derived.Deep.Draws
import Derived.Test.YtkdpjocglfephaaDoorChecked
import Derived.Deep.OwnRows
import Derived.Lib.Hide
import Derived.Deep.Quiet
import Derived.Laws.AppendOwnNone
import Derived.Lib.Strings
import Derived.Outline
import Derived.WalkLawsBesides
import Derived.WalkSpells
import Derived.PlainAid
import Derived.Deep.QuietTactic
import Derived.BigQuiet
import Derived.RegionTactic
import Derived.BigRegion
import Derived.Handy
import Derived.Laws.BitsAllLaws
import Derived.Deep.RegionWith
import Derived.Lib.AppendStr
import Derived.Deep.RegionLaw
import Derived.Maps.AppendAt
import Derived.OpenShut
import Derived.WideShapes
import Derived.ChangeArms
import Derived.Deep.Slices
import Derived.Sort.Grow
import Derived.OrdersHeld
import Derived.LaidEql
import Derived.Stop.Asserts
import Derived.RowKitTokens
import Derived.Laws.BitsLemmas
import Derived.Laws.Bits64
import Derived.WalkSmall
import Derived.Stop.IfaceNil
import Derived.Lib.Bytealg
import Derived.Deep.SlicePairs
/- The walk of rabbetplay's Schema. -/



namespace Go.Proofs.YtkdpjocglfephaaDoor
open Go.RowKit
set_option linter.unusedVariables false

def nameC (i : Nat) : ByteArray := ⟨#[99, UInt8.ofNat (97 + i)]⟩
def exC (m : Nat) : Nat → List Int → List Col3
  | _, [] => []
  | j, t :: r => (((3 + j : Nat) : Int), nameC (m - j), t) :: exC m (j + 1) r
theorem exC_snoc (m : Nat) : ∀ (ts : List Int) (j : Nat) (t : Int), exC m j (ts ++ [t]) = exC m j ts ++ [(((3 + (j + ts.length) : Nat) : Int), nameC (m - (j + ts.length)), t)]
  | [], j, t => by simp [exC]
  | x :: r, j, t => by
    have := exC_snoc m r (j + 1) t
    simp only [List.cons_append, exC, this, List.length_cons]
    rw [show j + 1 + r.length = j + (r.length + 1) by omega]
theorem exC_len (m : Nat) : ∀ (ts : List Int) (j : Nat), (exC m j ts).length = ts.length
  | [], _ => rfl
  | _ :: r, j => by simp [exC, exC_len m r (j + 1)]
abbrev idB : ByteArray := ⟨#[105, 100]⟩
abbrev tB : ByteArray := ⟨#[116]⟩
/-- The columns that are made. -/
def playCols (t0 : Int) (m : Nat) (ts : List Int) : List Col3 := (1, idB, t0) :: (2, tB, 4) :: exC m 0 ts
theorem playCols_len (t0 : Int) (m : Nat) (ts : List Int) : (playCols t0 m ts).length = ts.length + 2 := by simp [playCols, exC_len]
theorem playCols_snoc (t0 : Int) (m : Nat) (ts : List Int) (t : Int) : playCols t0 m (ts ++ [t]) = playCols t0 m ts ++ [(((ts.length + 3 : Nat) : Int), nameC (m - ts.length), t)] := by
  unfold playCols
  rw [exC_snoc, Nat.zero_add, show 3 + ts.length = ts.length + 3 by omega]; rfl
theorem nameC_cat (i : Nat) (h : 1 ≤ i ∧ i ≤ 2) : (⟨#[99]⟩ : ByteArray) ++ bstr [97 + i] = nameC i := by
  obtain rfl | rfl : i = 1 ∨ i = 2 := by omega
  all_goals rfl

/-- What holds all along in the walk of Schema: the picks; of what was there only they have turned; the results are empty yet. -/
structure SW (w : World) (g : Nat) (A : Option Addr) (n c : Nat) (bs : List Nat) (wr : World) : Prop where
  pk : Pks wr g A n c bs
  far : Far g w wr
  b2 : Blk wr w.heap.size #[.slice none 0 0, .int .i64 0] 33
  b3 : Blk wr (w.heap.size + 1) #[.int .i64 0, .int .i64 0, .int .i64 0, .slice none 0 0] 36
section
variable {w wr w' : World} {g : Nat} {A : Option Addr} {n c : Nat} {bs : List Nat}
theorem SW.step (h : SW w g A n c bs wr) (hb : Below w.heap.size wr w') (h2 : w'.heap[w.heap.size]? = wr.heap[w.heap.size]?) (h3 : w'.heap[w.heap.size + 1]? = wr.heap[w.heap.size + 1]?) : SW w g A n c bs w' :=
  ⟨h.pk.below hb h.far.1, h.far.below hb, h2.trans h.b2, h3.trans h.b3⟩
theorem SW.later (h : SW w g A n c bs wr) (l : Later wr w') : SW w g A n c bs w' := ⟨h.pk.later l, h.far.later l, h.b2.later l, h.b3.later l⟩
theorem SW.grown (h : SW w g A n c bs wr) {o : Option Nat} (hb : Below w.heap.size wr w') (hg : wr.grownBy w' o) (h2 : o ≠ some w.heap.size) (h3 : o ≠ some (w.heap.size + 1)) : SW w g A n c bs w' :=
  h.step hb (hg.block _ h.b2.lt (fun e => h2 e.symm)) (hg.block _ h.b3.lt (fun e => h3 e.symm))
theorem SW.num (h : SW w g A n c bs wr) (hp : Pks w' g A n c bs) (hf : Far g wr w') : SW w g A n c bs w' :=
  ⟨hp, h.far.trans hf, hf.blk h.b2 (by have := h.far.1; omega), hf.blk h.b3 (by have := h.far.1; omega)⟩
theorem SW.set_ (h : SW w g A n c bs wr) {p : Addr} (hp : w.heap.size + 2 ≤ p.block) (v : Value) : SW w g A n c bs (wr.setCell p v) :=
  h.step ((Below.refl _ _).setCell (by omega) v) (Below.heap_setCell wr p v _ (by omega)) (Below.heap_setCell wr p v _ (by omega))
end
/-- .. and the schema on its way: its variable in block g4, its columns a row of the call's own. -/
structure PS (w : World) (g : Nat) (A : Option Addr) (n c : Nat) (bs : List Nat) (g4 : Nat) (xs : List Col3) (V : Option Addr) (vn vc : Nat) (last : Int) (wr : World) : Prop where
  sw : SW w g A n c bs wr
  vn_ : vn = xs.length
  own : wr.ownsRow w.heap.size 74 3 (.slice V vn vc) vn (fc xs)
  b4 : Blk wr g4 #[.slice V vn vc, .int .i64 last] 33
  h4 : w.heap.size + 2 ≤ g4
  n2 : (Value.slice V vn vc).ownBlock ≠ some w.heap.size
  n3 : (Value.slice V vn vc).ownBlock ≠ some (w.heap.size + 1)
  n4 : (Value.slice V vn vc).ownBlock ≠ some g4
  nil_ : V = none → vc = 0
section
variable {w wr w' : World} {g : Nat} {A : Option Addr} {n c : Nat} {bs : List Nat} {g4 : Nat} {xs : List Col3} {V : Option Addr} {vn vc : Nat} {last : Int}
theorem PS.later (h : PS w g A n c bs g4 xs V vn vc last wr) (l : Later wr w') : PS w g A n c bs g4 xs V vn vc last w' :=
  ⟨h.sw.later l, h.vn_, own_later h.own l, h.b4.later l, h.h4, h.n2, h.n3, h.n4, h.nil_⟩
theorem PS.num (h : PS w g A n c bs g4 xs V vn vc last wr) (hp : Pks w' g A n c bs) (hf : Far g wr w') : PS w g A n c bs g4 xs V vn vc last w' :=
  ⟨h.sw.num hp hf, h.vn_, hf.own h.sw.far.1 h.own, hf.blk h.b4 (by have := h.sw.far.1; have := h.h4; omega), h.h4, h.n2, h.n3, h.n4, h.nil_⟩
theorem PS.last_ (h : PS w g A n c bs g4 xs V vn vc last wr) (z : Int) : PS w g A n c bs g4 xs V vn vc z (wr.setCell ⟨g4, 1, none⟩ (.int .i64 z)) :=
  ⟨h.sw.set_ h.h4 _, h.vn_, by
    obtain ⟨p1, p2⟩ := h.own
    refine ⟨p1, ?_⟩
    rcases p2 with p2 | ⟨q, cap, cur, ha, hb, hg, hrest⟩
    · exact .inl p2
    · have e2 : (Value.slice V vn vc).ownBlock = some q := by rw [ha]; rfl
      refine .inr ⟨q, cap, cur, ha, hb, (Below.heap_setCell wr ⟨g4, 1, none⟩ _ q ?_).trans hg, hrest⟩
      intro e; exact h.n4 (by rw [e2, e]), h.b4.set_ 1 _, h.h4, h.n2, h.n3, h.n4, h.nil_⟩
/-- A column more: the row has grown, its new place is stored. -/
theorem PS.more (h : PS w g A n c bs g4 xs V vn vc last wr) {V' : Option Addr} {vc' : Nat} {x : Col3} (ho : w'.ownsRow w.heap.size 74 3 (.slice V' (vn + 1) vc') (vn + 1) (fc xs ++ fc [x])) (hg : wr.grownBy w' (Value.slice V vn vc).ownBlock) (hb : Below w.heap.size wr w')
    (hat : (Value.slice V' (vn + 1) vc').ownBlock = (Value.slice V vn vc).ownBlock ∨ (Value.slice V' (vn + 1) vc').ownBlock = some wr.heap.size) (hn : V' = none → vc' = 0) :
    PS w g A n c bs g4 (xs ++ [x]) V' (vn + 1) vc' last (w'.setCell ⟨g4, 0, none⟩ (.slice V' (vn + 1) vc')) := by
  have k2 : (Value.slice V' (vn + 1) vc').ownBlock ≠ some w.heap.size := by
    rcases hat with e | e <;> rw [e]
    · exact h.n2
    · intro e; injection e with e; have := h.sw.b2.lt; omega
  have k3 : (Value.slice V' (vn + 1) vc').ownBlock ≠ some (w.heap.size + 1) := by
    rcases hat with e | e <;> rw [e]
    · exact h.n3
    · intro e; injection e with e; have := h.sw.b3.lt; omega
  have k4 : (Value.slice V' (vn + 1) vc').ownBlock ≠ some g4 := by
    rcases hat with e | e <;> rw [e]
    · exact h.n4
    · intro e; injection e with e; have := h.b4.lt; omega
  refine ⟨(h.sw.grown hb hg h.n2 h.n3).set_ h.h4 _, by rw [List.length_append, ← h.vn_]; rfl, ?_, ?_, h.h4, k2, k3, k4, hn⟩
  · rw [fc_append]
    obtain ⟨p1, p2⟩ := ho
    refine ⟨p1, ?_⟩
    rcases p2 with p2 | ⟨q, cap, cur, ha, hb, hg, hrest⟩
    · exact .inl p2
    · have e2 : (Value.slice V' (vn + 1) vc').ownBlock = some q := by rw [ha]; rfl
      refine .inr ⟨q, cap, cur, ha, hb, (Below.heap_setCell w' ⟨g4, 0, none⟩ _ q ?_).trans hg, hrest⟩
      intro e; exact k4 (by rw [e2, e])
  · have b4 : Blk w' g4 #[.slice V vn vc, .int .i64 last] 33 := (hg.block _ h.b4.lt (fun e => h.n4 e.symm)).trans h.b4
    exact b4.set_ 0 _
end
section
variable {w w' : World} {base : Nat} {e : TypeId} {k : Nat} {v : Value} {n : Nat} {xs : List Value}
theorem own_block (h : w.ownsRow base e k v n xs) (hb : ∀ q, v.ownBlock = some q → w'.heap[q]? = w.heap[q]?) : w'.ownsRow base e k v n xs := by
  obtain ⟨p1, p2⟩ := h
  refine ⟨p1, ?_⟩
  rcases p2 with p2 | ⟨q, cap, cur, ha, hb', hg, hrest⟩
  · exact .inl p2
  · exact .inr ⟨q, cap, cur, ha, hb', (hb q (by rw [ha]; rfl)).trans hg, hrest⟩
theorem own_at (h : w.ownsRow base e k v n xs) {q : Nat} (hq : v.ownBlock = some q) : base ≤ q ∧ q < w.heap.size := by
  obtain ⟨p1, p2⟩ := h
  rcases p2 with p2 | ⟨q', cap, cur, ha, hb', hg, hrest⟩
  · rw [p2.1] at hq; cases hq
  · rw [ha] at hq; injection hq with hq; subst hq
    refine ⟨hb', ?_⟩
    rcases Nat.lt_or_ge q' w.heap.size with h' | h'
    · exact h'
    · rw [Array.getElem?_eq_none h'] at hg; cases hg
end
/-- The blocks in which the schema and the results lie. -/
def PsB (w : World) (g4 : Nat) (V : Option Addr) (vn vc : Nat) (q : Nat) : Prop := q = w.heap.size ∨ q = w.heap.size + 1 ∨ q = g4 ∨ (Value.slice V vn vc).ownBlock = some q
section
variable {w wr w' : World} {g : Nat} {A : Option Addr} {n c : Nat} {bs : List Nat} {g4 : Nat} {xs : List Col3} {V : Option Addr} {vn vc : Nat} {last : Int}
theorem PS.step (h : PS w g A n c bs g4 xs V vn vc last wr) (hb : Below w.heap.size wr w') (hk : ∀ q, PsB w g4 V vn vc q → w'.heap[q]? = wr.heap[q]?) : PS w g A n c bs g4 xs V vn vc last w' :=
  ⟨h.sw.step hb (hk _ (.inl rfl)) (hk _ (.inr (.inl rfl))), h.vn_, own_block h.own fun q hq => hk q (.inr (.inr (.inr hq))), (hk _ (.inr (.inr (.inl rfl)))).trans h.b4, h.h4, h.n2, h.n3, h.n4, h.nil_⟩
theorem PS.lt (h : PS w g A n c bs g4 xs V vn vc last wr) {q : Nat} (hq : PsB w g4 V vn vc q) : q < wr.heap.size ∧ w.heap.size ≤ q := by
  rcases hq with rfl | rfl | rfl | hq
  · exact ⟨h.sw.b2.lt, Nat.le_refl _⟩
  · exact ⟨h.sw.b3.lt, by omega⟩
  · exact ⟨h.b4.lt, by have := h.h4; omega⟩
  · exact ⟨(own_at h.own hq).2, (own_at h.own hq).1⟩
end
/-- .. and the layout on its way: its variable in block g6, its encodings a row of the call's own. -/
structure LS (w : World) (g : Nat) (A : Option Addr) (n c : Nat) (bs : List Nat) (g4 : Nat) (xs : List Col3) (V : Option Addr) (vn vc : Nat) (last : Int) (g6 : Nat) (d0 d1 d2 : Int) (es : List Int) (E : Option Addr) (en ec : Nat) (wr : World) : Prop where
  ps : PS w g A n c bs g4 xs V vn vc last wr
  en_ : en = es.length
  own : wr.ownsRow w.heap.size 3 1 (.slice E en ec) en (es.map (Value.int .i64 ·))
  b6 : Blk wr g6 #[.int .i64 d0, .int .i64 d1, .int .i64 d2, .slice E en ec] 36
  h6 : w.heap.size ≤ g6
  k6 : ¬ PsB w g4 V vn vc g6
  kE : ∀ q, PsB w g4 V vn vc q → (Value.slice E en ec).ownBlock ≠ some q
  kE6 : (Value.slice E en ec).ownBlock ≠ some g6
  nil_ : E = none → ec = 0
section
variable {w wr w' : World} {g : Nat} {A : Option Addr} {n c : Nat} {bs : List Nat} {g4 : Nat} {xs : List Col3} {V : Option Addr} {vn vc : Nat} {last : Int} {g6 : Nat} {d0 d1 d2 : Int} {es : List Int} {E : Option Addr} {en ec : Nat}
theorem LS.later (h : LS w g A n c bs g4 xs V vn vc last g6 d0 d1 d2 es E en ec wr) (l : Later wr w') : LS w g A n c bs g4 xs V vn vc last g6 d0 d1 d2 es E en ec w' :=
  ⟨h.ps.later l, h.en_, own_later h.own l, h.b6.later l, h.h6, h.k6, h.kE, h.kE6, h.nil_⟩
theorem LS.num (h : LS w g A n c bs g4 xs V vn vc last g6 d0 d1 d2 es E en ec wr) (hp : Pks w' g A n c bs) (hf : Far g wr w') : LS w g A n c bs g4 xs V vn vc last g6 d0 d1 d2 es E en ec w' :=
  ⟨h.ps.num hp hf, h.en_, hf.own h.ps.sw.far.1 h.own, hf.blk h.b6 (by have := h.ps.sw.far.1; have := h.h6; omega), h.h6, h.k6, h.kE, h.kE6, h.nil_⟩
theorem LS.put (h : LS w g A n c bs g4 xs V vn vc last g6 d0 d1 d2 es E en ec wr) (k : Nat) (v : Value) {d0' d1' d2' : Int} (hb : Blk (wr.setCell ⟨g6, k, none⟩ v) g6 #[.int .i64 d0', .int .i64 d1', .int .i64 d2', .slice E en ec] 36) : LS w g A n c bs g4 xs V vn vc last g6 d0' d1' d2' es E en ec (wr.setCell ⟨g6, k, none⟩ v) :=
  ⟨h.ps.step ((Below.refl _ _).setCell (p := ⟨g6, k, none⟩) h.h6 v) (fun q hq => Below.heap_setCell wr ⟨g6, k, none⟩ v q (fun e => h.k6 ((show q = g6 from e) ▸ hq))), h.en_,
    own_block h.own (fun q hq => Below.heap_setCell wr ⟨g6, k, none⟩ v q (fun e => h.kE6 (hq.trans (by rw [e])))), hb, h.h6, h.k6, h.kE, h.kE6, h.nil_⟩
theorem LS.more (h : LS w g A n c bs g4 xs V vn vc last g6 d0 d1 d2 es E en ec wr) {E' : Option Addr} {ec' : Nat} {x : Int} (ho : w'.ownsRow w.heap.size 3 1 (.slice E' (en + 1) ec') (en + 1) (es.map (Value.int .i64 ·) ++ [.int .i64 x])) (hg : wr.grownBy w' (Value.slice E en ec).ownBlock) (hb : Below w.heap.size wr w')
    (hat : (Value.slice E' (en + 1) ec').ownBlock = (Value.slice E en ec).ownBlock ∨ (Value.slice E' (en + 1) ec').ownBlock = some wr.heap.size) (hn : E' = none → ec' = 0) :
    LS w g A n c bs g4 xs V vn vc last g6 d0 d1 d2 (es ++ [x]) E' (en + 1) ec' (w'.setCell ⟨g6, 3, none⟩ (.slice E' (en + 1) ec')) := by
  have k1 : ∀ q, PsB w g4 V vn vc q → (Value.slice E' (en + 1) ec').ownBlock ≠ some q := by
    intro q hq
    rcases hat with e | e <;> rw [e]
    · exact h.kE q hq
    · intro e; injection e with e; have := h.ps.lt hq; omega
  have k2 : (Value.slice E' (en + 1) ec').ownBlock ≠ some g6 := by
    rcases hat with e | e <;> rw [e]
    · exact h.kE6
    · intro e; injection e with e; have := h.b6.lt; omega
  have p1 : PS w g A n c bs g4 xs V vn vc last w' := h.ps.step hb fun q hq => hg.block q (h.ps.lt hq).1 (fun e => h.kE q hq e.symm)
  have b6 : Blk w' g6 #[.int .i64 d0, .int .i64 d1, .int .i64 d2, .slice E en ec] 36 := (hg.block _ h.b6.lt (fun e => h.kE6 e.symm)).trans h.b6
  refine ⟨p1.step ((Below.refl _ _).setCell (p := ⟨g6, 3, none⟩) h.h6 _) (fun q hq => Below.heap_setCell w' ⟨g6, 3, none⟩ _ q (fun e => h.k6 ((show q = g6 from e) ▸ hq))), by rw [List.length_append, ← h.en_]; rfl,
    own_block (by rw [List.map_append]; exact ho) (fun q hq => Below.heap_setCell w' ⟨g6, 3, none⟩ _ q (fun e => k2 (hq.trans (by rw [e])))), b6.set_ 3 _, h.h6, h.k6, k1, k2, hn⟩
/-- The layout's variable is new. -/
theorem PS.layout (h : PS w g A n c bs g4 xs V vn vc last wr) (g6 : Nat) (hg6 : wr.heap.size = g6) (d0 d1 d2 : Int) :
    LS w g A n c bs g4 xs V vn vc last g6 d0 d1 d2 [] none 0 0 (wr.alloc (.cells #[.int .i64 d0, .int .i64 d1, .int .i64 d2, .slice none 0 0] 36)) :=
  ⟨h.later (Later.new _ _), rfl, ⟨rfl, .inl ⟨rfl, rfl⟩⟩, Blk.new _ _ _ _ hg6.symm, by have := h.sw.b3.lt; omega, fun hq => by have := h.lt hq; omega, (fun _ _ e => by cases e), (fun e => by cases e), fun _ => rfl⟩
theorem Blk.off {w : World} {q : Nat} {cs : Array Value} {t : TypeId} (hb : Blk w q cs t) {p : Addr} (hne : q ≠ p.block) (v : Value) : Blk (w.setCell p v) q cs t := (Below.heap_setCell w p v q hne).trans hb
/-- What is left when the results are stored. -/
structure RS (w : World) (g : Nat) (A : Option Addr) (n c : Nat) (bs : List Nat) (xs : List Col3) (V : Option Addr) (vn vc : Nat) (es : List Int) (E : Option Addr) (en ec : Nat) (wr : World) : Prop where
  pk : Pks wr g A n c bs
  far : Far g w wr
  oV : wr.ownsRow w.heap.size 74 3 (.slice V vn vc) vn (fc xs)
  oE : wr.ownsRow w.heap.size 3 1 (.slice E en ec) en (es.map (Value.int .i64 ·))
  nV : (Value.slice V vn vc).ownBlock ≠ some w.heap.size ∧ (Value.slice V vn vc).ownBlock ≠ some (w.heap.size + 1)
  nE : (Value.slice E en ec).ownBlock ≠ some w.heap.size ∧ (Value.slice E en ec).ownBlock ≠ some (w.heap.size + 1)
  zV : V = none → vc = 0
  zE : E = none → ec = 0
theorem LS.rs (h : LS w g A n c bs g4 xs V vn vc last g6 d0 d1 d2 es E en ec wr) : RS w g A n c bs xs V vn vc es E en ec wr :=
  ⟨h.ps.sw.pk, h.ps.sw.far, h.ps.own, h.own, ⟨h.ps.n2, h.ps.n3⟩, ⟨h.kE _ (.inl rfl), h.kE _ (.inr (.inl rfl))⟩, h.ps.nil_, h.nil_⟩
theorem RS.set_ (h : RS w g A n c bs xs V vn vc es E en ec wr) (k : Nat) (v : Value) {q : Nat} (hq : q = w.heap.size ∨ q = w.heap.size + 1) : RS w g A n c bs xs V vn vc es E en ec (wr.setCell ⟨q, k, none⟩ v) := by
  have hle : w.heap.size ≤ q := by rcases hq with rfl | rfl <;> omega
  have hb : Below w.heap.size wr (wr.setCell ⟨q, k, none⟩ v) := (Below.refl _ _).setCell (p := ⟨q, k, none⟩) hle v
  refine ⟨h.pk.below hb h.far.1, h.far.below hb, own_block h.oV fun j hj => Below.heap_setCell wr ⟨q, k, none⟩ v j fun e => ?_, own_block h.oE fun j hj => Below.heap_setCell wr ⟨q, k, none⟩ v j fun e => ?_, h.nV, h.nE, h.zV, h.zE⟩
  · have e : j = q := e
    rcases hq with rfl | rfl
    · exact h.nV.1 (hj.trans (by rw [e]))
    · exact h.nV.2 (hj.trans (by rw [e]))
  · have e : j = q := e
    rcases hq with rfl | rfl
    · exact h.nE.1 (hj.trans (by rw [e]))
    · exact h.nE.2 (hj.trans (by rw [e]))
end
theorem results_cell2 {P : Program} {fn : Func} {p q : Tmp} {ty tz : TypeId} (h : fn.results = #[.cell p ty, .cell q tz]) (tmps : Array Value) (w : World)
    (g : Nat) (t : TypeId) (cs : Array Value) (d : TypeDesc) (hp : tmps.getD p undef = .pointer (some ⟨g, 0, none⟩)) (hg : w.heap[g]? = some (.cells cs t (0, 0))) (hu : P.underlying ty = some d) (hd : (match d with | .struct _ | .array _ _ => true | _ => false) = true) (hi : (P.info? ty).map (·.size) = some cs.size)
    (g2 : Nat) (t2 : TypeId) (cs2 : Array Value) (d2 : TypeDesc) (hp2 : tmps.getD q undef = .pointer (some ⟨g2, 0, none⟩)) (hg2 : w.heap[g2]? = some (.cells cs2 t2 (0, 0))) (hu2 : P.underlying tz = some d2) (hd2 : (match d2 with | .struct _ | .array _ _ => true | _ => false) = true) (hi2 : (P.info? tz).map (·.size) = some cs2.size) :
    (results fn tmps).run P w = .ok (.tuple #[.agg cs, .agg cs2]) w := by
  have hp' : tmps[p]?.getD undef = .pointer (some ⟨g, 0, none⟩) := by simpa using hp
  have hp2' : tmps[q]?.getD undef = .pointer (some ⟨g2, 0, none⟩) := by simpa using hp2
  simp [results, h, hp', hp2', asAddr, run_loadVar_row w g t ty cs (0, 0) d hg hu hd hi, run_loadVar_row w g2 t2 tz cs2 (0, 0) d2 hg2 hu2 hd2 hi2]
/-- The layout's three numbers, for a schema of so many columns. -/
def Lay (d0 d1 d2 : Int) (k : Nat) : Prop := (0 ≤ d0 ∧ d0 ≤ k) ∧ ((d1 = 0 ∧ d2 = 1) ∨ (1 ≤ d1 ∧ d1 ≤ k ∧ 1 ≤ d2 ∧ d2 ≤ 4))
/-- What Schema answers. -/
def SchemaP (g : Nat) (A : Option Addr) (n c : Nat) (bs : List Nat) (w : World) (e : Ending) (w' : World) : Prop :=
  ∃ (t0 : Int) (m : Nat) (ts : List Int) (V : Option Addr) (vc : Nat) (es : List Int) (E : Option Addr) (ec : Nat) (d0 d1 d2 : Int),
    e = .returned (.tuple #[.agg #[.slice V (m + 2) vc, .int .i64 ((m + 2 : Nat) : Int)], .agg #[.int .i64 d0, .int .i64 d1, .int .i64 d2, .slice E (m + 2) ec]]) ∧
    (m ≤ 2 ∧ ts.length = m ∧ (1 ≤ t0 ∧ t0 ≤ 4) ∧ ∀ t ∈ ts, 1 ≤ t ∧ t ≤ 4) ∧ (es.length = m + 2 ∧ (∀ t ∈ es, 1 ≤ t ∧ t ≤ 5) ∧ Lay d0 d1 d2 (m + 2)) ∧ RS w g A n c bs (playCols t0 m ts) V (m + 2) vc es E (m + 2) ec w'
theorem SchemaP.mk {g : Nat} {A : Option Addr} {n c : Nat} {bs : List Nat} {w wr : World} {t0 : Int} {m j : Nat} {ts : List Int} {xs : List Col3} {V : Option Addr} {vc : Nat} {es : List Int} {E : Option Addr} {ec : Nat} {d0 d1 d2 L : Int} (hj : j = m + 2) (htl : ts.length = m) (hL : ((ts.length + 2 : Nat) : Int) = L)
    (hxs : playCols t0 m ts = xs) (hm : m < 3) (ht0 : 1 ≤ t0 ∧ t0 ≤ 4) (hts : ∀ t ∈ ts, 1 ≤ t ∧ t ≤ 4) (hej : es.length = j) (hes : ∀ t ∈ es, 1 ≤ t ∧ t ≤ 5) (hlay : Lay d0 d1 d2 j) (rs : RS w g A n c bs xs V j vc es E j ec wr) :
    SchemaP g A n c bs w (.returned (.tuple #[.agg #[.slice V j vc, .int .i64 L], .agg #[.int .i64 d0, .int .i64 d1, .int .i64 d2, .slice E j ec]])) wr := by
  subst hj hxs hL
  exact ⟨t0, m, ts, V, vc, es, E, ec, d0, d1, d2, by rw [htl], ⟨by omega, htl, ht0, hts⟩, ⟨hej, hes, hlay⟩, rs⟩

theorem info_c : (Tryd.prog.info? 74).map (fun i => (i.zero, i.size, i.bytes)) = some (some (cagg 0 ⟨#[]⟩ 0), 3, 32) := by kernel_rfl
theorem Has.far {W W' : World} {g b off : Nat} {xs : List Value} (h : Has W (some ⟨b, off, none⟩) xs) (hf : Far g W W') (hne : b ≠ g) : Has W' (some ⟨b, off, none⟩) xs := by
  rcases h with h | ⟨b', off', hA, hb, hc⟩
  · exact .inl h
  · injection hA with hA
    injection hA with e1 e2
    subst e1 e2
    exact .inr ⟨b, off, rfl, Nat.lt_of_lt_of_le hb hf.size, fun k v hv => by rw [cell_block (hf.2.2 b hb hne)]; exact hc k v hv⟩
theorem info_e : (Tryd.prog.info? 3).map (fun i => (i.zero, i.size, i.bytes)) = some (some (.int .i64 0), 1, 8) := by kernel_rfl
/-- Where Schema's second loop stands. -/
def ScJ (w : World) (g : Nat) (A : Option Addr) (n c : Nat) (bs : List Nat) (g4 : Nat) (xs : List Col3) (V : Option Addr) (vn vc : Nat) (last : Int) (g6 : Nat) (jv : Value) (wr : World) : Prop :=
  ∃ (j : Nat) (es : List Int) (E : Option Addr) (ec : Nat), jv = .int .i64 j ∧ es.length = j ∧ j ≤ vn ∧ (∀ t ∈ es, 1 ≤ t ∧ t ≤ 5) ∧ LS w g A n c bs g4 xs V vn vc last g6 0 0 1 es E j ec wr
theorem ScJ.mk {w : World} {g : Nat} {A : Option Addr} {n c : Nat} {bs : List Nat} {g4 : Nat} {xs : List Col3} {V : Option Addr} {vn vc : Nat} {last : Int} {g6 : Nat} {wr : World} (y : Int) (j : Nat) (es : List Int) (E : Option Addr) (ec : Nat) (hy : y = (j : Int)) (hj : es.length = j) (hjn : j ≤ vn) (ht : ∀ t ∈ es, 1 ≤ t ∧ t ≤ 5) (p : LS w g A n c bs g4 xs V vn vc last g6 0 0 1 es E j ec wr) :
    ScJ w g A n c bs g4 xs V vn vc last g6 (.int .i64 y) wr := by
  subst hy; exact ⟨j, es, E, ec, rfl, hj, hjn, ht, p⟩
/-- Where Schema's first loop stands. -/
def ScI (w : World) (g : Nat) (A : Option Addr) (n c : Nat) (bs : List Nat) (t0 : Int) (m g4 : Nat) (iv : Value) (wr : World) : Prop :=
  ∃ (i : Nat) (ts : List Int) (V : Option Addr) (vn vc : Nat), iv = .int .i64 i ∧ i + ts.length = m ∧ (∀ t ∈ ts, 1 ≤ t ∧ t ≤ 4) ∧ PS w g A n c bs g4 (playCols t0 m ts) V vn vc (ts.length + 2 : Nat) wr
theorem ScI.mk {w : World} {g : Nat} {A : Option Addr} {n c : Nat} {bs : List Nat} {t0 : Int} {m g4 : Nat} {wr : World} (y : Int) (i : Nat) (ts : List Int) (V : Option Addr) (vn vc : Nat) (hy : y = (i : Int)) (him : i + ts.length = m) (ht : ∀ t ∈ ts, 1 ≤ t ∧ t ≤ 4) (p : PS w g A n c bs g4 (playCols t0 m ts) V vn vc (ts.length + 2 : Nat) wr) : ScI w g A n c bs t0 m g4 (.int .i64 y) wr := by
  subst hy; exact ⟨i, ts, V, vn, vc, rfl, him, ht, p⟩

set_option maxRecDepth 100000 in
set_option maxHeartbeats 8000000 in
theorem schema_any (g : Nat) (A : Option Addr) (n c : Nat) (bs : List Nat) (w : World) (hc : PkC n bs) (hp : Pks w g A n c bs) :
    Calls Tryd.prog 7 #[.pointer (some ⟨g, 0, none⟩)] w (SchemaP g A n c bs w) := by
  obtain ⟨h0, hh0⟩ : ∃ x, w.heap.size = x := ⟨_, rfl⟩
  obtain ⟨w1, hw1⟩ : ∃ x : World, (w.alloc (.cells #[.slice none 0 0, .int .i64 0] 33)).alloc (.cells #[.int .i64 0, .int .i64 0, .int .i64 0, .slice none 0 0] 36) = x := ⟨_, rfl⟩
  have l1 : Later w w1 := hw1 ▸ (Later.new w _).alloc _
  have SW1 : SW w g A n c bs w1 := ⟨hp.later l1, Far.of hp.lt l1, hw1 ▸ (Blk.new w _ _ _ rfl).later (Later.new _ _), hw1 ▸ Blk.new _ _ _ _ (by simp)⟩
  have hs1 : w1.heap.size = h0 + 2 := by rw [← hw1, ← hh0]; simp
  have HSW1 := Lib.hid SW1
  have HN1 := Lib.hid (num_any 4 g A n c bs w1 (by omega) hc SW1.pk)
  clear l1 SW1 hp
  go_enter Tryd.func7, Tryd.ntmps7
  go_wp2_with fail
  refine HN1.out.mono ?_
  rintro e w2 ⟨r, hr, rfl, hp2, hf2⟩
  have HSW2 := Lib.hid (HSW1.out.num hp2 hf2)
  have hs2 : h0 + 2 ≤ w2.heap.size := by have := hf2.size; omega
  have hw : IntKind.i64.wrap (1 + (r : Int)) = 1 + (r : Int) := IntWalk.i64_in _ ⟨by omega, by omega⟩
  clear hp2 hf2 HN1 HSW1 hw1
  go_wp2_with fail
  obtain ⟨gc, hgc⟩ : ∃ x, w2.heap.size = x := ⟨_, rfl⟩
  obtain ⟨w3, hw3⟩ : ∃ x : World, (w2.alloc (.cells (fc (playCols (1 + (r : Int)) 0 [])).toArray 74)).alloc (.cells #[.slice (some ⟨gc, 0, none⟩) 2 2, .int .i64 2] 33) = x := ⟨_, rfl⟩
  have l3 : Later w2 w3 := hw3 ▸ (Later.new _ _).alloc _
  have PS3 : ∀ m, PS w g A n c bs (gc + 1) (playCols (1 + (r : Int)) m []) (some ⟨gc, 0, none⟩) 2 2 2 w3 := fun m => ⟨HSW2.out.later l3, rfl, by
      have hb : Blk w3 gc (fc (playCols (1 + (r : Int)) 0 [])).toArray 74 := hw3 ▸ (Blk.new w2 _ _ gc hgc.symm).later (Later.new _ _)
      exact hb.ownG (n := 2) (by omega) rfl (by unfold maxLen; omega), hw3 ▸ Blk.new _ _ _ _ (by simp [hgc]), by omega, by show some gc ≠ _; intro e; injection e with e; omega, by show some gc ≠ _; intro e; injection e with e; omega, by show some gc ≠ _; intro e; injection e with e; omega, by intro h; cases h⟩
  have HPS3 := Lib.hid PS3
  have HN3 := Lib.hid (num_any 3 g A n c bs w3 (by omega) hc (PS3 0).sw.pk)
  change Calls _ _ _ ((w2.alloc (.cells (fc (playCols (1 + (r : Int)) 0 [])).toArray 74)).alloc (.cells #[.slice (some ⟨w2.heap.size, 0, none⟩) 2 2, .int .i64 2] 33)) _
  rw [hgc, hw3]
  have h4 : h0 + 2 ≤ gc + 1 := by omega
  obtain ⟨g4, hg4⟩ : ∃ x, gc + 1 = x := ⟨_, rfl⟩
  rw [hg4] at HPS3 h4 ⊢
  refine HN3.out.mono ?_
  rintro e w4 ⟨m, hm, rfl, hp4, hf4⟩
  obtain ⟨t0, ht0⟩ : ∃ x, 1 + (r : Int) = x := ⟨_, rfl⟩
  have ht0b : 1 ≤ t0 ∧ t0 ≤ 4 := by omega
  rw [ht0] at HPS3 ⊢
  have HI0 := Lib.hid (ScI.mk (m : Int) m [] _ _ _ rfl (by simp) (by simp) ((HPS3.out m).num hp4 hf4))
  clear hw3 l3 PS3 HN3 hp4 hf4 HPS3 hgc hw HSW2 hg4
  go_wp2_with fail
  go_loopw [5] (fun iv wr => ScI w g A n c bs t0 m g4 iv wr) (fun i _ => (intOf i).toNat)
  case atStart => exact HI0.out
  case round =>
    obtain ⟨i, ts, V, vn, vc, rfl, him, hts, ps⟩ := hrel
    have HTS := Lib.hid hts
    have HIM := Lib.hid him
    clear hts HI0
    by_cases hi0 : 0 < i
    · have hii : (0 : Int) < (i : Int) := by omega
      have hi2 : i ≤ 2 := by omega
      have him2 : ts.length ≤ 2 := by omega
      have c0 := ps.b4.cell 0 _ rfl
      have c1 := ps.b4.cell 1 _ rfl
      have f1 := ps.b4.frozen 1
      have f0 := ps.b4.frozen 0
      have ps5 := ps.last_ ((ts.length + 3 : Nat) : Int)
      have hwl : IntKind.i64.wrap (((ts.length + 2 : Nat) : Int) + 1) = ((ts.length + 3 : Nat) : Int) := by rw [IntWalk.i64_in _ ⟨by omega, by omega⟩]; omega
      have hwl2 : ((ts.length + 2 : Nat) : Int) + 1 = ((ts.length + 3 : Nat) : Int) := by omega
      obtain ⟨L3, hL3⟩ : ∃ x : Int, ((ts.length + 3 : Nat) : Int) = x := ⟨_, rfl⟩
      obtain ⟨L2, hL2⟩ : ∃ x : Int, ((ts.length + 2 : Nat) : Int) = x := ⟨_, rfl⟩
      rw [hL3] at ps5 hwl hwl2
      rw [hL2] at c1 hwl hwl2
      have hL2b : 0 ≤ L2 ∧ L2 ≤ 10 := by omega
      have HL3 := Lib.hid hL3
      obtain ⟨w5, hw5⟩ : ∃ x, wr.setCell ⟨g4, 1, none⟩ (.int .i64 L3) = x := ⟨_, rfl⟩
      rw [hw5] at ps5
      have HPS5 := Lib.hid ps5
      clear hL3 hL2 ps ps5
      go_wp2_with fail
      have hwu : IntKind.u8.wrap (97 + (i : Int)) = 97 + (i : Int) := by simp [IntKind.wrap, IntKind.bits, IntKind.signed]; omega
      have hwa : IntKind.i64.wrap (97 + (i : Int)) = 97 + (i : Int) := IntWalk.i64_in _ ⟨by omega, by omega⟩
      have hcs : (9223372036854775807 < (⟨#[99]⟩ : ByteArray).size + (bstr [97 + i]).size) = False := by
        have e : (bstr [97 + i]).size = 1 := rfl
        have e2 : (⟨#[99]⟩ : ByteArray).size = 1 := rfl
        rw [e, e2]; simp
      have hcs2 : (9223372036854775807 < 1 + (bstr [97 + i]).size) = False := by
        have e : (bstr [97 + i]).size = 1 := rfl
        rw [e]; simp
      clear hw5 c0 c1 f0 f1
      refine wp_region_Z (S := fun W : World => W.cell? ⟨g4, 0, none⟩ = some (.slice V vn vc) ∧ W.cell? ⟨g4, 1, none⟩ = some (.int .i64 L3)) 17 (by kernel_rfl) ?_
      have ps := HPS5.out.later (Later.refl w5).drew
      have hS : (fun W : World => W.cell? ⟨g4, 0, none⟩ = some (.slice V vn vc) ∧ W.cell? ⟨g4, 1, none⟩ = some (.int .i64 L3)) w5.drew := ⟨ps.b4.cell 0 _ rfl, ps.b4.cell 1 _ rfl⟩
      obtain ⟨w6, hw6⟩ : ∃ x, w5.drew = x := ⟨_, rfl⟩
      rw [hw6] at ps hS ⊢
      clear hw6 HPS5
      refine wpAnyZ_take (i := 0) (oi := { dst := some 25, op := _, type := _, pos := _, after := _, guard := _ }) (v := ?_) rfl (by kernel_rfl) (by kernel_rfl) (by kernel_rfl) (by kernel_rfl) (fun _ _ _ h => h) (Or.inl ⟨by rfl, ?_⟩) hS ?_
      rotate_left
      focus ((intro w hSw; (try dsimp only at hSw); obtain ⟨d0, d1⟩ := hSw; go_simp); (try with_reducible rfl))
      (try simp only [Act.put, List.setIfInBounds_toArray, List.set_cons_zero, List.set_cons_succ])
      refine wpAnyZ_take (i := 1) (oi := { dst := some 26, op := _, type := _, pos := _, after := _, guard := _ }) (v := ?_) rfl (by kernel_rfl) (by kernel_rfl) (by kernel_rfl) (by kernel_rfl) (fun _ _ _ h => h) (Or.inl ⟨by rfl, ?_⟩) hS ?_
      rotate_left
      focus ((intro w hSw; (try dsimp only at hSw); obtain ⟨d0, d1⟩ := hSw; go_simp); (try with_reducible rfl))
      (try simp only [Act.put, List.setIfInBounds_toArray, List.set_cons_zero, List.set_cons_succ])
      refine wpAnyZ_take (i := 2) (oi := { dst := some 27, op := _, type := _, pos := _, after := _, guard := _ }) (v := ?_) rfl (by kernel_rfl) (by kernel_rfl) (by kernel_rfl) (by kernel_rfl) (fun _ _ _ h => h) (Or.inl ⟨by rfl, ?_⟩) hS ?_
      rotate_left
      focus ((intro w hSw; (try dsimp only at hSw); obtain ⟨d0, d1⟩ := hSw; go_simp); (try with_reducible rfl))
      (try simp only [Act.put, List.setIfInBounds_toArray, List.set_cons_zero, List.set_cons_succ])
      refine wpAnyZ_take (i := 3) (oi := { dst := some 28, op := _, type := _, pos := _, after := _, guard := _ }) (v := ?_) rfl (by kernel_rfl) (by kernel_rfl) (by kernel_rfl) (by kernel_rfl) (fun _ _ _ h => h) (Or.inl ⟨by rfl, ?_⟩) hS ?_
      rotate_left
      focus ((intro w hSw; (try dsimp only at hSw); obtain ⟨d0, d1⟩ := hSw; go_simp); (try with_reducible rfl))
      (try simp only [Act.put, List.setIfInBounds_toArray, List.set_cons_zero, List.set_cons_succ])
      refine wpAnyZ_take (i := 4) (oi := { dst := some 29, op := _, type := _, pos := _, after := _, guard := _ }) (v := ?_) rfl (by kernel_rfl) (by kernel_rfl) (by kernel_rfl) (by kernel_rfl) (fun _ _ _ h => h) (Or.inl ⟨by rfl, ?_⟩) hS ?_
      rotate_left
      focus ((intro w hSw; (try dsimp only at hSw); obtain ⟨d0, d1⟩ := hSw; go_simp); (try with_reducible rfl))
      (try simp only [Act.put, List.setIfInBounds_toArray, List.set_cons_zero, List.set_cons_succ])
      refine wpAnyZ_take (i := 5) (oi := { dst := some 30, op := _, type := _, pos := _, after := _, guard := _ }) (v := ?_) rfl (by kernel_rfl) (by kernel_rfl) (by kernel_rfl) (by kernel_rfl) (fun _ _ _ h => h) (Or.inl ⟨by rfl, ?_⟩) hS ?_
      rotate_left
      focus ((intro w hSw; (try dsimp only at hSw); obtain ⟨d0, d1⟩ := hSw; go_simp); (try with_reducible rfl))
      (try simp only [Act.put, List.setIfInBounds_toArray, List.set_cons_zero, List.set_cons_succ])
      refine wpAnyZ_take (i := 6) (oi := { dst := some 31, op := _, type := _, pos := _, after := _, guard := _ }) (v := ?_) rfl (by kernel_rfl) (by kernel_rfl) (by kernel_rfl) (by kernel_rfl) (fun _ _ _ h => h) (Or.inl ⟨by rfl, ?_⟩) hS ?_
      rotate_left
      focus ((intro w hSw; (try dsimp only at hSw); obtain ⟨d0, d1⟩ := hSw; go_simp); (try with_reducible rfl))
      (try simp only [Act.put, List.setIfInBounds_toArray, List.set_cons_zero, List.set_cons_succ])
      refine wpAnyZ_take (i := 10) (oi := { dst := some 35, op := _, type := _, pos := _, after := _, guard := _ }) (v := ?_) rfl (by kernel_rfl) (by kernel_rfl) (by kernel_rfl) (by kernel_rfl) (fun _ _ _ h => h) (Or.inl ⟨by rfl, ?_⟩) hS ?_
      rotate_left
      focus ((intro w hSw; (try dsimp only at hSw); obtain ⟨d0, d1⟩ := hSw; go_simp); (try with_reducible rfl))
      (try simp only [Act.put, List.setIfInBounds_toArray, List.set_cons_zero, List.set_cons_succ])
      refine wpAnyZ_all (rs := [7, 11]) (by kernel_rfl) (by simp) (fun i hi => ?_)
      simp only [List.mem_cons, List.not_mem_nil, or_false] at hi
      rcases hi with rfl | rfl
      · skip
        refine stepZ (o := { dst := some 32, op := _, type := _, pos := _, after := _, guard := _ }) rfl (fun K hK => ?_)
        go_simp
        obtain ⟨gb, hgb⟩ : ∃ x, w6.heap.size = x := ⟨_, rfl⟩
        obtain ⟨wb, hwb⟩ : ∃ x, w6.alloc (.cells #[.int .u8 (97 + (i : Int))] 5) = x := ⟨_, rfl⟩
        have lb : Later w6 wb := hwb ▸ Later.new _ _
        have hbytes : Has wb (some ⟨gb, 0, none⟩) (ints .u8 [97 + i]) := by
          have h := (Blk.new w6 #[.int .u8 (97 + (i : Int))] 5 gb hgb.symm).has (cs := [.int .u8 (97 + (i : Int))])
          rw [hwb] at h
          have e : ints .u8 [97 + i] = [.int .u8 (97 + (i : Int))] := by simp [ints]
          rw [e]; exact h
        have hgbg : gb ≠ g := by have := ps.sw.pk.lt; omega
        try rw [hgb]
        rw [hwb]
        have ps := ps.later lb
        have hS : (fun W : World => W.cell? ⟨g4, 0, none⟩ = some (.slice V vn vc) ∧ W.cell? ⟨g4, 1, none⟩ = some (.int .i64 L3)) wb := ⟨ps.b4.cell 0 _ rfl, ps.b4.cell 1 _ rfl⟩
        refine hK _ _ hS ?_
        clear hK hwb lb hgb
        (try simp only [Act.put, List.setIfInBounds_toArray, List.set_cons_zero, List.set_cons_succ])
        refine wpAnyZ_all (rs := [8, 11]) (by kernel_rfl) (by simp) (fun i hi => ?_)
        simp only [List.mem_cons, List.not_mem_nil, or_false] at hi
        rcases hi with rfl | rfl
        · skip
          have hcv := conv_str (some ⟨gb, 0, none⟩) 1 1 [97 + i] rfl wb _ hbytes
          refine stepZ (o := { dst := some 33, op := _, type := _, pos := _, after := _, guard := _ }) rfl (fun K hK => ?_)
          go_simp
          refine hK _ _ hS ?_
          clear hK hcv
          (try simp only [Act.put, List.setIfInBounds_toArray, List.set_cons_zero, List.set_cons_succ])
          refine wpAnyZ_take (i := 9) (oi := { dst := some 34, op := _, type := _, pos := _, after := _, guard := _ }) (v := ?_) rfl (by kernel_rfl) (by kernel_rfl) (by kernel_rfl) (by kernel_rfl) (fun _ _ _ h => h) (Or.inl ⟨by rfl, ?_⟩) hS ?_
          rotate_left
          focus ((intro w hSw; (try dsimp only at hSw); obtain ⟨d0, d1⟩ := hSw; go_simp); (try with_reducible rfl))
          (try simp only [Act.put, List.setIfInBounds_toArray, List.set_cons_zero, List.set_cons_succ])
          refine wpAnyZ_all (rs := [11]) (by kernel_rfl) (by simp) (fun i hi => ?_)
          simp only [List.mem_cons, List.not_mem_nil, or_false] at hi
          subst hi
          refine stepZ (o := { dst := some 36, op := _, type := _, pos := _, after := _, guard := _ }) rfl (fun K hK => ?_)
          go_simp
          refine (num_any 4 g A n c bs wb (by omega) hc ps.sw.pk).mono ?_
          rintro e wn ⟨r2, hr2, rfl, hp, hf⟩
          have ps := ps.num hp hf
          have hS : (fun W : World => W.cell? ⟨g4, 0, none⟩ = some (.slice V vn vc) ∧ W.cell? ⟨g4, 1, none⟩ = some (.int .i64 L3)) wn := ⟨ps.b4.cell 0 _ rfl, ps.b4.cell 1 _ rfl⟩
          have hw2 : IntKind.i64.wrap (1 + (r2 : Int)) = 1 + (r2 : Int) := IntWalk.i64_in _ ⟨by omega, by omega⟩
          refine hK _ _ hS ?_
          clear hK hp hf
          (try simp only [Act.put, List.setIfInBounds_toArray, List.set_cons_zero, List.set_cons_succ])
          refine wpAnyZ_take (i := 12) (oi := { dst := some 37, op := _, type := _, pos := _, after := _, guard := _ }) (v := ?_) rfl (by kernel_rfl) (by kernel_rfl) (by kernel_rfl) (by kernel_rfl) (fun _ _ _ h => h) (Or.inl ⟨by rfl, ?_⟩) hS ?_
          rotate_left
          focus ((intro w hSw; (try dsimp only at hSw); obtain ⟨d0, d1⟩ := hSw; go_simp); (try with_reducible rfl))
          (try simp only [Act.put, List.setIfInBounds_toArray, List.set_cons_zero, List.set_cons_succ])
          refine wpAnyZ_take (i := 13) (oi := { dst := some 38, op := _, type := _, pos := _, after := _, guard := _ }) (v := ?_) rfl (by kernel_rfl) (by kernel_rfl) (by kernel_rfl) (by kernel_rfl) (fun _ _ _ h => h) (Or.inl ⟨by rfl, ?_⟩) hS ?_
          rotate_left
          focus ((intro w hSw; (try dsimp only at hSw); obtain ⟨d0, d1⟩ := hSw; go_simp); (try with_reducible rfl))
          (try simp only [Act.put, List.setIfInBounds_toArray, List.set_cons_zero, List.set_cons_succ])
          refine wpAnyZ_all (rs := [14]) (by kernel_rfl) (by simp) (fun i hi => ?_)
          simp only [List.mem_cons, List.not_mem_nil, or_false] at hi
          subst hi
          refine stepZ (o := { dst := some 39, op := _, type := _, pos := _, after := _, guard := _ }) rfl (fun K hK => ?_)
          go_simp
          obtain ⟨gl, hgl⟩ : ∃ x, wn.heap.size = x := ⟨_, rfl⟩
          obtain ⟨wl, hwl⟩ : ∃ x, wn.alloc (.cells #[.int .i64 L3, .string (⟨#[99]⟩ ++ bstr [97 + i]), .int .i64 (1 + (r2 : Int))] 74) = x := ⟨_, rfl⟩
          have ll : Later wn wl := hwl ▸ Later.new _ _
          have hlit : Has wl (some ⟨gl, 0, none⟩) (fc [(L3, ⟨#[99]⟩ ++ bstr [97 + i], 1 + (r2 : Int))]) := hwl ▸ (Blk.new wn (fc [(L3, ⟨#[99]⟩ ++ bstr [97 + i], 1 + (r2 : Int))]).toArray 74 gl hgl.symm).has
          try rw [hgl]
          rw [hwl]
          have ps := ps.later ll
          have hS : (fun W : World => W.cell? ⟨g4, 0, none⟩ = some (.slice V vn vc) ∧ W.cell? ⟨g4, 1, none⟩ = some (.int .i64 L3)) wl := ⟨ps.b4.cell 0 _ rfl, ps.b4.cell 1 _ rfl⟩
          refine hK _ _ hS ?_
          clear hK hwl ll hgl
          (try simp only [Act.put, List.setIfInBounds_toArray, List.set_cons_zero, List.set_cons_succ])
          refine wpAnyZ_all (rs := [15]) (by kernel_rfl) (by simp) (fun i hi => ?_)
          simp only [List.mem_cons, List.not_mem_nil, or_false] at hi
          subst hi
          refine stepZ (o := { dst := some 40, op := _, type := _, pos := _, after := _, guard := _ }) rfl (fun K hK => ?_)
          have hvb : vn ≤ 10 := by have := ps.vn_; rw [playCols_len] at this; omega
          refine step_append_x rfl (.tmp 26) (.tmp 39) 31 rfl w.heap.size 74 _ 3 32 Tryd.underlying31 info_c rfl (by decide) _ vn (fc (playCols t0 m ts)) rfl ps.own gl 0 1 1 (fc [(L3, ⟨#[99]⟩ ++ bstr [97 + i], 1 + (r2 : Int))]) rfl hlit rfl (fc_one _) (by unfold maxLen; omega) (by omega) (by have := ps.sw.b3.lt; omega) ?_
          rintro V' vc' wq ho hgr hbl hat hnl
          have pm := ps.more ho hgr hbl hat hnl
          have b4 : Blk wq g4 #[.slice V vn vc, .int .i64 L3] 33 := (hgr.block _ ps.b4.lt (fun e => ps.n4 e.symm)).trans ps.b4
          refine hK _ _ ⟨b4.cell 0 _ rfl, b4.cell 1 _ rfl⟩ ?_
          have hSq : (fun W : World => W.cell? ⟨g4, 0, none⟩ = some (.slice V vn vc) ∧ W.cell? ⟨g4, 1, none⟩ = some (.int .i64 L3)) wq := ⟨b4.cell 0 _ rfl, b4.cell 1 _ rfl⟩
          have e0 := b4.cell 0 _ rfl
          have y0 := b4.frozen 0
          have HPM := Lib.hid pm
          clear hK ho hgr hbl hat pm b4 hS ps hlit
          (try simp only [Act.put, List.setIfInBounds_toArray, List.set_cons_zero, List.set_cons_succ])
          refine wpAnyZ_take (i := 16) (oi := { dst := some 41, op := _, type := _, pos := _, after := _, guard := _ }) (v := ?_) rfl (by kernel_rfl) (by kernel_rfl) (by kernel_rfl) (by kernel_rfl) (fun _ _ _ h => h) (Or.inl ⟨by rfl, ?_⟩) hSq ?_
          rotate_left
          focus ((intro w hSw; (try dsimp only at hSw); obtain ⟨d0, d1⟩ := hSw; go_simp); (try with_reducible rfl))
          (try simp only [Act.put, List.setIfInBounds_toArray, List.set_cons_zero, List.set_cons_succ])
          refine wpAnyZ_all (rs := [17]) (by kernel_rfl) (by simp) (fun i hi => ?_)
          simp only [List.mem_cons, List.not_mem_nil, or_false] at hi
          subst hi
          refine stepZl (o := { dst := none, op := _, type := _, pos := _, after := _, guard := _ }) rfl (fun K hK => ?_)
          go_simp
          refine hK _ _ ?_
          clear hK e0 y0
          (try simp only [Act.put, List.setIfInBounds_toArray, List.set_cons_zero, List.set_cons_succ])
          refine wpAnyZ_done (by kernel_rfl) ?_ _
          obtain ⟨wz, hwz⟩ : ∃ x, wq.setCell ⟨g4, 0, none⟩ (.slice V' (vn + 1) vc') = x := ⟨_, rfl⟩
          rw [hwz] at HPM ⊢
          clear hwz
          obtain ⟨i', rfl⟩ : ∃ i', i = i' + 1 := ⟨i - 1, by omega⟩
          have hdec : ((i' + 1 : Nat) : Int) - 1 = (i' : Int) := by omega
          go_wp2_with fail
          go_roundw
          all_goals first
            | exact ScI.mk _ i' (ts ++ [1 + (r2 : Int)]) V' (vn + 1) vc' (by omega) (by rw [List.length_append, List.length_singleton]; have := HIM.out; omega) (by intro t ht; rcases List.mem_append.1 ht with h | h; exact HTS.out t h; rw [List.mem_singleton] at h; subst h; omega) (by
                have h := HPM.out
                rw [nameC_cat _ (by omega)] at h
                rw [playCols_snoc, HL3.out, show m - ts.length = i' + 1 by have := HIM.out; omega, List.length_append, List.length_singleton, show ts.length + 1 + 2 = ts.length + 3 by omega, HL3.out]
                exact h)
            | (simp [intOf])
            | (simp [intOf]; omega)
        · skip
          refine stepZ (o := { dst := some 36, op := _, type := _, pos := _, after := _, guard := _ }) rfl (fun K hK => ?_)
          go_simp
          refine (num_any 4 g A n c bs wb (by omega) hc ps.sw.pk).mono ?_
          rintro e wn ⟨r2, hr2, rfl, hp, hf⟩
          have ps := ps.num hp hf
          have hS : (fun W : World => W.cell? ⟨g4, 0, none⟩ = some (.slice V vn vc) ∧ W.cell? ⟨g4, 1, none⟩ = some (.int .i64 L3)) wn := ⟨ps.b4.cell 0 _ rfl, ps.b4.cell 1 _ rfl⟩
          have hbytes := hbytes.far hf hgbg
          have hw2 : IntKind.i64.wrap (1 + (r2 : Int)) = 1 + (r2 : Int) := IntWalk.i64_in _ ⟨by omega, by omega⟩
          refine hK _ _ hS ?_
          clear hK hp hf
          (try simp only [Act.put, List.setIfInBounds_toArray, List.set_cons_zero, List.set_cons_succ])
          refine wpAnyZ_take (i := 12) (oi := { dst := some 37, op := _, type := _, pos := _, after := _, guard := _ }) (v := ?_) rfl (by kernel_rfl) (by kernel_rfl) (by kernel_rfl) (by kernel_rfl) (fun _ _ _ h => h) (Or.inl ⟨by rfl, ?_⟩) hS ?_
          rotate_left
          focus ((intro w hSw; (try dsimp only at hSw); obtain ⟨d0, d1⟩ := hSw; go_simp); (try with_reducible rfl))
          (try simp only [Act.put, List.setIfInBounds_toArray, List.set_cons_zero, List.set_cons_succ])
          refine wpAnyZ_all (rs := [8]) (by kernel_rfl) (by simp) (fun i hi => ?_)
          simp only [List.mem_cons, List.not_mem_nil, or_false] at hi
          subst hi
          have hcv := conv_str (some ⟨gb, 0, none⟩) 1 1 [97 + i] rfl wn _ hbytes
          refine stepZ (o := { dst := some 33, op := _, type := _, pos := _, after := _, guard := _ }) rfl (fun K hK => ?_)
          go_simp
          refine hK _ _ hS ?_
          clear hK hcv
          (try simp only [Act.put, List.setIfInBounds_toArray, List.set_cons_zero, List.set_cons_succ])
          refine wpAnyZ_take (i := 9) (oi := { dst := some 34, op := _, type := _, pos := _, after := _, guard := _ }) (v := ?_) rfl (by kernel_rfl) (by kernel_rfl) (by kernel_rfl) (by kernel_rfl) (fun _ _ _ h => h) (Or.inl ⟨by rfl, ?_⟩) hS ?_
          rotate_left
          focus ((intro w hSw; (try dsimp only at hSw); obtain ⟨d0, d1⟩ := hSw; go_simp); (try with_reducible rfl))
          (try simp only [Act.put, List.setIfInBounds_toArray, List.set_cons_zero, List.set_cons_succ])
          refine wpAnyZ_take (i := 13) (oi := { dst := some 38, op := _, type := _, pos := _, after := _, guard := _ }) (v := ?_) rfl (by kernel_rfl) (by kernel_rfl) (by kernel_rfl) (by kernel_rfl) (fun _ _ _ h => h) (Or.inl ⟨by rfl, ?_⟩) hS ?_
          rotate_left
          focus ((intro w hSw; (try dsimp only at hSw); obtain ⟨d0, d1⟩ := hSw; go_simp); (try with_reducible rfl))
          (try simp only [Act.put, List.setIfInBounds_toArray, List.set_cons_zero, List.set_cons_succ])
          refine wpAnyZ_all (rs := [14]) (by kernel_rfl) (by simp) (fun i hi => ?_)
          simp only [List.mem_cons, List.not_mem_nil, or_false] at hi
          subst hi
          refine stepZ (o := { dst := some 39, op := _, type := _, pos := _, after := _, guard := _ }) rfl (fun K hK => ?_)
          go_simp
          obtain ⟨gl, hgl⟩ : ∃ x, wn.heap.size = x := ⟨_, rfl⟩
          obtain ⟨wl, hwl⟩ : ∃ x, wn.alloc (.cells #[.int .i64 L3, .string (⟨#[99]⟩ ++ bstr [97 + i]), .int .i64 (1 + (r2 : Int))] 74) = x := ⟨_, rfl⟩
          have ll : Later wn wl := hwl ▸ Later.new _ _
          have hlit : Has wl (some ⟨gl, 0, none⟩) (fc [(L3, ⟨#[99]⟩ ++ bstr [97 + i], 1 + (r2 : Int))]) := hwl ▸ (Blk.new wn (fc [(L3, ⟨#[99]⟩ ++ bstr [97 + i], 1 + (r2 : Int))]).toArray 74 gl hgl.symm).has
          try rw [hgl]
          rw [hwl]
          have ps := ps.later ll
          have hS : (fun W : World => W.cell? ⟨g4, 0, none⟩ = some (.slice V vn vc) ∧ W.cell? ⟨g4, 1, none⟩ = some (.int .i64 L3)) wl := ⟨ps.b4.cell 0 _ rfl, ps.b4.cell 1 _ rfl⟩
          refine hK _ _ hS ?_
          clear hK hwl ll hgl
          (try simp only [Act.put, List.setIfInBounds_toArray, List.set_cons_zero, List.set_cons_succ])
          refine wpAnyZ_all (rs := [15]) (by kernel_rfl) (by simp) (fun i hi => ?_)
          simp only [List.mem_cons, List.not_mem_nil, or_false] at hi
          subst hi
          refine stepZ (o := { dst := some 40, op := _, type := _, pos := _, after := _, guard := _ }) rfl (fun K hK => ?_)
          have hvb : vn ≤ 10 := by have := ps.vn_; rw [playCols_len] at this; omega
          refine step_append_x rfl (.tmp 26) (.tmp 39) 31 rfl w.heap.size 74 _ 3 32 Tryd.underlying31 info_c rfl (by decide) _ vn (fc (playCols t0 m ts)) rfl ps.own gl 0 1 1 (fc [(L3, ⟨#[99]⟩ ++ bstr [97 + i], 1 + (r2 : Int))]) rfl hlit rfl (fc_one _) (by unfold maxLen; omega) (by omega) (by have := ps.sw.b3.lt; omega) ?_
          rintro V' vc' wq ho hgr hbl hat hnl
          have pm := ps.more ho hgr hbl hat hnl
          have b4 : Blk wq g4 #[.slice V vn vc, .int .i64 L3] 33 := (hgr.block _ ps.b4.lt (fun e => ps.n4 e.symm)).trans ps.b4
          refine hK _ _ ⟨b4.cell 0 _ rfl, b4.cell 1 _ rfl⟩ ?_
          have hSq : (fun W : World => W.cell? ⟨g4, 0, none⟩ = some (.slice V vn vc) ∧ W.cell? ⟨g4, 1, none⟩ = some (.int .i64 L3)) wq := ⟨b4.cell 0 _ rfl, b4.cell 1 _ rfl⟩
          have e0 := b4.cell 0 _ rfl
          have y0 := b4.frozen 0
          have HPM := Lib.hid pm
          clear hK ho hgr hbl hat pm b4 hS ps hlit
          (try simp only [Act.put, List.setIfInBounds_toArray, List.set_cons_zero, List.set_cons_succ])
          refine wpAnyZ_take (i := 16) (oi := { dst := some 41, op := _, type := _, pos := _, after := _, guard := _ }) (v := ?_) rfl (by kernel_rfl) (by kernel_rfl) (by kernel_rfl) (by kernel_rfl) (fun _ _ _ h => h) (Or.inl ⟨by rfl, ?_⟩) hSq ?_
          rotate_left
          focus ((intro w hSw; (try dsimp only at hSw); obtain ⟨d0, d1⟩ := hSw; go_simp); (try with_reducible rfl))
          (try simp only [Act.put, List.setIfInBounds_toArray, List.set_cons_zero, List.set_cons_succ])
          refine wpAnyZ_all (rs := [17]) (by kernel_rfl) (by simp) (fun i hi => ?_)
          simp only [List.mem_cons, List.not_mem_nil, or_false] at hi
          subst hi
          refine stepZl (o := { dst := none, op := _, type := _, pos := _, after := _, guard := _ }) rfl (fun K hK => ?_)
          go_simp
          refine hK _ _ ?_
          clear hK e0 y0
          (try simp only [Act.put, List.setIfInBounds_toArray, List.set_cons_zero, List.set_cons_succ])
          refine wpAnyZ_done (by kernel_rfl) ?_ _
          obtain ⟨wz, hwz⟩ : ∃ x, wq.setCell ⟨g4, 0, none⟩ (.slice V' (vn + 1) vc') = x := ⟨_, rfl⟩
          rw [hwz] at HPM ⊢
          clear hwz
          obtain ⟨i', rfl⟩ : ∃ i', i = i' + 1 := ⟨i - 1, by omega⟩
          have hdec : ((i' + 1 : Nat) : Int) - 1 = (i' : Int) := by omega
          go_wp2_with fail
          go_roundw
          all_goals first
            | exact ScI.mk _ i' (ts ++ [1 + (r2 : Int)]) V' (vn + 1) vc' (by omega) (by rw [List.length_append, List.length_singleton]; have := HIM.out; omega) (by intro t ht; rcases List.mem_append.1 ht with h | h; exact HTS.out t h; rw [List.mem_singleton] at h; subst h; omega) (by
                have h := HPM.out
                rw [nameC_cat _ (by omega)] at h
                rw [playCols_snoc, HL3.out, show m - ts.length = i' + 1 by have := HIM.out; omega, List.length_append, List.length_singleton, show ts.length + 1 + 2 = ts.length + 3 by omega, HL3.out]
                exact h)
            | (simp [intOf])
            | (simp [intOf]; omega)
      · skip
        refine stepZ (o := { dst := some 36, op := _, type := _, pos := _, after := _, guard := _ }) rfl (fun K hK => ?_)
        go_simp
        refine (num_any 4 g A n c bs w6 (by omega) hc ps.sw.pk).mono ?_
        rintro e wn ⟨r2, hr2, rfl, hp, hf⟩
        have ps := ps.num hp hf
        have hS : (fun W : World => W.cell? ⟨g4, 0, none⟩ = some (.slice V vn vc) ∧ W.cell? ⟨g4, 1, none⟩ = some (.int .i64 L3)) wn := ⟨ps.b4.cell 0 _ rfl, ps.b4.cell 1 _ rfl⟩
        have hw2 : IntKind.i64.wrap (1 + (r2 : Int)) = 1 + (r2 : Int) := IntWalk.i64_in _ ⟨by omega, by omega⟩
        refine hK _ _ hS ?_
        clear hK hp hf
        (try simp only [Act.put, List.setIfInBounds_toArray, List.set_cons_zero, List.set_cons_succ])
        refine wpAnyZ_take (i := 12) (oi := { dst := some 37, op := _, type := _, pos := _, after := _, guard := _ }) (v := ?_) rfl (by kernel_rfl) (by kernel_rfl) (by kernel_rfl) (by kernel_rfl) (fun _ _ _ h => h) (Or.inl ⟨by rfl, ?_⟩) hS ?_
        rotate_left
        focus ((intro w hSw; (try dsimp only at hSw); obtain ⟨d0, d1⟩ := hSw; go_simp); (try with_reducible rfl))
        (try simp only [Act.put, List.setIfInBounds_toArray, List.set_cons_zero, List.set_cons_succ])
        refine wpAnyZ_all (rs := [7]) (by kernel_rfl) (by simp) (fun i hi => ?_)
        simp only [List.mem_cons, List.not_mem_nil, or_false] at hi
        subst hi
        refine stepZ (o := { dst := some 32, op := _, type := _, pos := _, after := _, guard := _ }) rfl (fun K hK => ?_)
        go_simp
        obtain ⟨gb, hgb⟩ : ∃ x, wn.heap.size = x := ⟨_, rfl⟩
        obtain ⟨wb, hwb⟩ : ∃ x, wn.alloc (.cells #[.int .u8 (97 + (i : Int))] 5) = x := ⟨_, rfl⟩
        have lb : Later wn wb := hwb ▸ Later.new _ _
        have hbytes : Has wb (some ⟨gb, 0, none⟩) (ints .u8 [97 + i]) := by
          have h := (Blk.new wn #[.int .u8 (97 + (i : Int))] 5 gb hgb.symm).has (cs := [.int .u8 (97 + (i : Int))])
          rw [hwb] at h
          have e : ints .u8 [97 + i] = [.int .u8 (97 + (i : Int))] := by simp [ints]
          rw [e]; exact h
        have hgbg : gb ≠ g := by have := ps.sw.pk.lt; omega
        try rw [hgb]
        rw [hwb]
        have ps := ps.later lb
        have hS : (fun W : World => W.cell? ⟨g4, 0, none⟩ = some (.slice V vn vc) ∧ W.cell? ⟨g4, 1, none⟩ = some (.int .i64 L3)) wb := ⟨ps.b4.cell 0 _ rfl, ps.b4.cell 1 _ rfl⟩
        refine hK _ _ hS ?_
        clear hK hwb lb hgb
        (try simp only [Act.put, List.setIfInBounds_toArray, List.set_cons_zero, List.set_cons_succ])
        refine wpAnyZ_all (rs := [8]) (by kernel_rfl) (by simp) (fun i hi => ?_)
        simp only [List.mem_cons, List.not_mem_nil, or_false] at hi
        subst hi
        have hcv := conv_str (some ⟨gb, 0, none⟩) 1 1 [97 + i] rfl wb _ hbytes
        refine stepZ (o := { dst := some 33, op := _, type := _, pos := _, after := _, guard := _ }) rfl (fun K hK => ?_)
        go_simp
        refine hK _ _ hS ?_
        clear hK hcv
        (try simp only [Act.put, List.setIfInBounds_toArray, List.set_cons_zero, List.set_cons_succ])
        refine wpAnyZ_take (i := 9) (oi := { dst := some 34, op := _, type := _, pos := _, after := _, guard := _ }) (v := ?_) rfl (by kernel_rfl) (by kernel_rfl) (by kernel_rfl) (by kernel_rfl) (fun _ _ _ h => h) (Or.inl ⟨by rfl, ?_⟩) hS ?_
        rotate_left
        focus ((intro w hSw; (try dsimp only at hSw); obtain ⟨d0, d1⟩ := hSw; go_simp); (try with_reducible rfl))
        (try simp only [Act.put, List.setIfInBounds_toArray, List.set_cons_zero, List.set_cons_succ])
        refine wpAnyZ_take (i := 13) (oi := { dst := some 38, op := _, type := _, pos := _, after := _, guard := _ }) (v := ?_) rfl (by kernel_rfl) (by kernel_rfl) (by kernel_rfl) (by kernel_rfl) (fun _ _ _ h => h) (Or.inl ⟨by rfl, ?_⟩) hS ?_
        rotate_left
        focus ((intro w hSw; (try dsimp only at hSw); obtain ⟨d0, d1⟩ := hSw; go_simp); (try with_reducible rfl))
        (try simp only [Act.put, List.setIfInBounds_toArray, List.set_cons_zero, List.set_cons_succ])
        refine wpAnyZ_all (rs := [14]) (by kernel_rfl) (by simp) (fun i hi => ?_)
        simp only [List.mem_cons, List.not_mem_nil, or_false] at hi
        subst hi
        refine stepZ (o := { dst := some 39, op := _, type := _, pos := _, after := _, guard := _ }) rfl (fun K hK => ?_)
        go_simp
        obtain ⟨gl, hgl⟩ : ∃ x, wb.heap.size = x := ⟨_, rfl⟩
        obtain ⟨wl, hwl⟩ : ∃ x, wb.alloc (.cells #[.int .i64 L3, .string (⟨#[99]⟩ ++ bstr [97 + i]), .int .i64 (1 + (r2 : Int))] 74) = x := ⟨_, rfl⟩
        have ll : Later wb wl := hwl ▸ Later.new _ _
        have hlit : Has wl (some ⟨gl, 0, none⟩) (fc [(L3, ⟨#[99]⟩ ++ bstr [97 + i], 1 + (r2 : Int))]) := hwl ▸ (Blk.new wb (fc [(L3, ⟨#[99]⟩ ++ bstr [97 + i], 1 + (r2 : Int))]).toArray 74 gl hgl.symm).has
        try rw [hgl]
        rw [hwl]
        have ps := ps.later ll
        have hS : (fun W : World => W.cell? ⟨g4, 0, none⟩ = some (.slice V vn vc) ∧ W.cell? ⟨g4, 1, none⟩ = some (.int .i64 L3)) wl := ⟨ps.b4.cell 0 _ rfl, ps.b4.cell 1 _ rfl⟩
        refine hK _ _ hS ?_
        clear hK hwl ll hgl
        (try simp only [Act.put, List.setIfInBounds_toArray, List.set_cons_zero, List.set_cons_succ])
        refine wpAnyZ_all (rs := [15]) (by kernel_rfl) (by simp) (fun i hi => ?_)
        simp only [List.mem_cons, List.not_mem_nil, or_false] at hi
        subst hi
        refine stepZ (o := { dst := some 40, op := _, type := _, pos := _, after := _, guard := _ }) rfl (fun K hK => ?_)
        have hvb : vn ≤ 10 := by have := ps.vn_; rw [playCols_len] at this; omega
        refine step_append_x rfl (.tmp 26) (.tmp 39) 31 rfl w.heap.size 74 _ 3 32 Tryd.underlying31 info_c rfl (by decide) _ vn (fc (playCols t0 m ts)) rfl ps.own gl 0 1 1 (fc [(L3, ⟨#[99]⟩ ++ bstr [97 + i], 1 + (r2 : Int))]) rfl hlit rfl (fc_one _) (by unfold maxLen; omega) (by omega) (by have := ps.sw.b3.lt; omega) ?_
        rintro V' vc' wq ho hgr hbl hat hnl
        have pm := ps.more ho hgr hbl hat hnl
        have b4 : Blk wq g4 #[.slice V vn vc, .int .i64 L3] 33 := (hgr.block _ ps.b4.lt (fun e => ps.n4 e.symm)).trans ps.b4
        refine hK _ _ ⟨b4.cell 0 _ rfl, b4.cell 1 _ rfl⟩ ?_
        have hSq : (fun W : World => W.cell? ⟨g4, 0, none⟩ = some (.slice V vn vc) ∧ W.cell? ⟨g4, 1, none⟩ = some (.int .i64 L3)) wq := ⟨b4.cell 0 _ rfl, b4.cell 1 _ rfl⟩
        have e0 := b4.cell 0 _ rfl
        have y0 := b4.frozen 0
        have HPM := Lib.hid pm
        clear hK ho hgr hbl hat pm b4 hS ps hlit
        (try simp only [Act.put, List.setIfInBounds_toArray, List.set_cons_zero, List.set_cons_succ])
        refine wpAnyZ_take (i := 16) (oi := { dst := some 41, op := _, type := _, pos := _, after := _, guard := _ }) (v := ?_) rfl (by kernel_rfl) (by kernel_rfl) (by kernel_rfl) (by kernel_rfl) (fun _ _ _ h => h) (Or.inl ⟨by rfl, ?_⟩) hSq ?_
        rotate_left
        focus ((intro w hSw; (try dsimp only at hSw); obtain ⟨d0, d1⟩ := hSw; go_simp); (try with_reducible rfl))
        (try simp only [Act.put, List.setIfInBounds_toArray, List.set_cons_zero, List.set_cons_succ])
        refine wpAnyZ_all (rs := [17]) (by kernel_rfl) (by simp) (fun i hi => ?_)
        simp only [List.mem_cons, List.not_mem_nil, or_false] at hi
        subst hi
        refine stepZl (o := { dst := none, op := _, type := _, pos := _, after := _, guard := _ }) rfl (fun K hK => ?_)
        go_simp
        refine hK _ _ ?_
        clear hK e0 y0
        (try simp only [Act.put, List.setIfInBounds_toArray, List.set_cons_zero, List.set_cons_succ])
        refine wpAnyZ_done (by kernel_rfl) ?_ _
        obtain ⟨wz, hwz⟩ : ∃ x, wq.setCell ⟨g4, 0, none⟩ (.slice V' (vn + 1) vc') = x := ⟨_, rfl⟩
        rw [hwz] at HPM ⊢
        clear hwz
        obtain ⟨i', rfl⟩ : ∃ i', i = i' + 1 := ⟨i - 1, by omega⟩
        have hdec : ((i' + 1 : Nat) : Int) - 1 = (i' : Int) := by omega
        go_wp2_with fail
        go_roundw
        all_goals first
          | exact ScI.mk _ i' (ts ++ [1 + (r2 : Int)]) V' (vn + 1) vc' (by omega) (by rw [List.length_append, List.length_singleton]; have := HIM.out; omega) (by intro t ht; rcases List.mem_append.1 ht with h | h; exact HTS.out t h; rw [List.mem_singleton] at h; subst h; omega) (by
              have h := HPM.out
              rw [nameC_cat _ (by omega)] at h
              rw [playCols_snoc, HL3.out, show m - ts.length = i' + 1 by have := HIM.out; omega, List.length_append, List.length_singleton, show ts.length + 1 + 2 = ts.length + 3 by omega, HL3.out]
              exact h)
          | (simp [intOf])
          | (simp [intOf]; omega)
    · skip
      have hi : i = 0 := by omega
      subst hi
      have htl : ts.length = m := by omega
      obtain ⟨xs, hxs⟩ : ∃ x, playCols t0 m ts = x := ⟨_, rfl⟩
      have hvn := ps.vn_
      rw [hxs] at ps hvn
      obtain ⟨L, hL⟩ : ∃ x : Int, ((ts.length + 2 : Nat) : Int) = x := ⟨_, rfl⟩
      rw [hL] at ps
      have hvn2 : vn = m + 2 := by rw [hvn, ← hxs, playCols_len, htl]
      have hvb : 2 ≤ vn ∧ vn ≤ 4 := by omega
      have HVN := Lib.hid hvn2
      clear hvn2
      obtain ⟨g6, hg6⟩ : ∃ x, wr.heap.size = x := ⟨_, rfl⟩
      have HL7 := Lib.hid (ps.layout g6 hg6 0 0 1)
      have HXS := Lib.hid hxs
      have HL := Lib.hid hL
      clear hxs hL hvn
      go_wp2_with fail
      have HJ0 := Lib.hid (ScJ.mk 0 0 [] none 0 rfl rfl (Nat.zero_le _) (by simp) HL7.out)
      clear ps HL7
      go_loopw [7] (fun jv wr => ScJ w g A n c bs g4 xs V vn vc L g6 jv wr) (fun j _ => vn - (intOf j).toNat)
      case atStart => exact HJ0.out
      case round =>
        obtain ⟨j, es, E, ec, rfl, hej, hjn, hes, ls⟩ := hrel
        have HES := Lib.hid hes
        clear hes HJ0
        have c0 := ls.ps.b4.cell 0 _ rfl
        by_cases hjlt : j < vn
        · have hjj : (j : Int) < (vn : Int) := by omega
          have HLS := Lib.hid ls
          clear ls
          go_wp2_with fail
          refine wp_region_Z (S := fun W : World => W.cell? ⟨g6, 3, none⟩ = some (.slice E j ec) ∧ True) 8 (by kernel_rfl) ?_
          have ls := HLS.out.later (Later.refl wr).drew
          have hS : (fun W : World => W.cell? ⟨g6, 3, none⟩ = some (.slice E j ec) ∧ True) wr.drew := ⟨ls.b6.cell 3 _ rfl, trivial⟩
          obtain ⟨w8, hw8⟩ : ∃ x, wr.drew = x := ⟨_, rfl⟩
          rw [hw8] at ls hS ⊢
          clear hw8 HLS c0
          refine wpAnyZ_take (i := 0) (oi := { dst := some 50, op := _, type := _, pos := _, after := _, guard := _ }) (v := ?_) rfl (by kernel_rfl) (by kernel_rfl) (by kernel_rfl) (by kernel_rfl) (fun _ _ _ h => h) (Or.inl ⟨by rfl, ?_⟩) hS ?_
          rotate_left
          focus ((intro w hSw; (try dsimp only at hSw); obtain ⟨d0, d1⟩ := hSw; go_simp); (try with_reducible rfl))
          (try simp only [Act.put, List.setIfInBounds_toArray, List.set_cons_zero, List.set_cons_succ])
          refine wpAnyZ_take (i := 1) (oi := { dst := some 51, op := _, type := _, pos := _, after := _, guard := _ }) (v := ?_) rfl (by kernel_rfl) (by kernel_rfl) (by kernel_rfl) (by kernel_rfl) (fun _ _ _ h => h) (Or.inl ⟨by rfl, ?_⟩) hS ?_
          rotate_left
          focus ((intro w hSw; (try dsimp only at hSw); obtain ⟨d0, d1⟩ := hSw; go_simp); (try with_reducible rfl))
          (try simp only [Act.put, List.setIfInBounds_toArray, List.set_cons_zero, List.set_cons_succ])
          refine wpAnyZ_take (i := 2) (oi := { dst := some 52, op := _, type := _, pos := _, after := _, guard := _ }) (v := ?_) rfl (by kernel_rfl) (by kernel_rfl) (by kernel_rfl) (by kernel_rfl) (fun _ _ _ h => h) (Or.inl ⟨by rfl, ?_⟩) hS ?_
          rotate_left
          focus ((intro w hSw; (try dsimp only at hSw); obtain ⟨d0, d1⟩ := hSw; go_simp); (try with_reducible rfl))
          (try simp only [Act.put, List.setIfInBounds_toArray, List.set_cons_zero, List.set_cons_succ])
          refine wpAnyZ_all (rs := [3]) (by kernel_rfl) (by simp) (fun i hi => ?_)
          simp only [List.mem_cons, List.not_mem_nil, or_false] at hi
          subst hi
          refine stepZ (o := { dst := some 53, op := _, type := _, pos := _, after := _, guard := _ }) rfl (fun K hK => ?_)
          go_simp
          refine (num_any 5 g A n c bs w8 (by omega) hc ls.ps.sw.pk).mono ?_
          rintro e wn ⟨r2, hr2, rfl, hp, hf⟩
          have ls := ls.num hp hf
          have hS : (fun W : World => W.cell? ⟨g6, 3, none⟩ = some (.slice E j ec) ∧ True) wn := ⟨ls.b6.cell 3 _ rfl, trivial⟩
          have hw2 : IntKind.i64.wrap (1 + (r2 : Int)) = 1 + (r2 : Int) := IntWalk.i64_in _ ⟨by omega, by omega⟩
          refine hK _ _ hS ?_
          clear hK hp hf
          (try simp only [Act.put, List.setIfInBounds_toArray, List.set_cons_zero, List.set_cons_succ])
          refine wpAnyZ_take (i := 4) (oi := { dst := some 54, op := _, type := _, pos := _, after := _, guard := _ }) (v := ?_) rfl (by kernel_rfl) (by kernel_rfl) (by kernel_rfl) (by kernel_rfl) (fun _ _ _ h => h) (Or.inl ⟨by rfl, ?_⟩) hS ?_
          rotate_left
          focus ((intro w hSw; (try dsimp only at hSw); obtain ⟨d0, d1⟩ := hSw; go_simp); (try with_reducible rfl))
          (try simp only [Act.put, List.setIfInBounds_toArray, List.set_cons_zero, List.set_cons_succ])
          refine wpAnyZ_all (rs := [5]) (by kernel_rfl) (by simp) (fun i hi => ?_)
          simp only [List.mem_cons, List.not_mem_nil, or_false] at hi
          subst hi
          refine stepZ (o := { dst := some 55, op := _, type := _, pos := _, after := _, guard := _ }) rfl (fun K hK => ?_)
          go_simp
          obtain ⟨gl, hgl⟩ : ∃ x, wn.heap.size = x := ⟨_, rfl⟩
          obtain ⟨wl, hwl⟩ : ∃ x, wn.alloc (.cells #[.int .i64 (1 + (r2 : Int))] 3) = x := ⟨_, rfl⟩
          have ll : Later wn wl := hwl ▸ Later.new _ _
          have hlit : Has wl (some ⟨gl, 0, none⟩) [.int .i64 (1 + (r2 : Int))] := hwl ▸ (Blk.new wn [.int .i64 (1 + (r2 : Int))].toArray 3 gl hgl.symm).has
          try rw [hgl]
          rw [hwl]
          have ls := ls.later ll
          have hS : (fun W : World => W.cell? ⟨g6, 3, none⟩ = some (.slice E j ec) ∧ True) wl := ⟨ls.b6.cell 3 _ rfl, trivial⟩
          refine hK _ _ hS ?_
          clear hK hwl ll hgl
          (try simp only [Act.put, List.setIfInBounds_toArray, List.set_cons_zero, List.set_cons_succ])
          refine wpAnyZ_all (rs := [6]) (by kernel_rfl) (by simp) (fun i hi => ?_)
          simp only [List.mem_cons, List.not_mem_nil, or_false] at hi
          subst hi
          refine stepZ (o := { dst := some 56, op := _, type := _, pos := _, after := _, guard := _ }) rfl (fun K hK => ?_)
          refine step_append_x rfl (.tmp 51) (.tmp 55) 34 rfl w.heap.size 3 _ 1 8 Tryd.underlying34 info_e rfl (by decide) _ j (es.map (Value.int .i64 ·)) rfl ls.own gl 0 1 1 [.int .i64 (1 + (r2 : Int))] rfl hlit rfl (by simp [Value.oneCell']) (by unfold maxLen; omega) (by omega) (by have := ls.ps.sw.b3.lt; omega) ?_
          rintro E' ec' wq ho hgr hbl hat hnl
          have lm := ls.more ho hgr hbl hat hnl
          have b6 : Blk wq g6 #[.int .i64 0, .int .i64 0, .int .i64 1, .slice E j ec] 36 := (hgr.block _ ls.b6.lt (fun e => ls.kE6 e.symm)).trans ls.b6
          have hSq : (fun W : World => W.cell? ⟨g6, 3, none⟩ = some (.slice E j ec) ∧ True) wq := ⟨b6.cell 3 _ rfl, trivial⟩
          refine hK _ _ hSq ?_
          have e0 := b6.cell 3 _ rfl
          have y0 := b6.frozen 3
          have HLM := Lib.hid lm
          clear hK ho hgr hbl hat lm b6 hS ls hlit
          (try simp only [Act.put, List.setIfInBounds_toArray, List.set_cons_zero, List.set_cons_succ])
          refine wpAnyZ_take (i := 7) (oi := { dst := some 57, op := _, type := _, pos := _, after := _, guard := _ }) (v := ?_) rfl (by kernel_rfl) (by kernel_rfl) (by kernel_rfl) (by kernel_rfl) (fun _ _ _ h => h) (Or.inl ⟨by rfl, ?_⟩) hSq ?_
          rotate_left
          focus ((intro w hSw; (try dsimp only at hSw); obtain ⟨d0, d1⟩ := hSw; go_simp); (try with_reducible rfl))
          (try simp only [Act.put, List.setIfInBounds_toArray, List.set_cons_zero, List.set_cons_succ])
          refine wpAnyZ_all (rs := [8]) (by kernel_rfl) (by simp) (fun i hi => ?_)
          simp only [List.mem_cons, List.not_mem_nil, or_false] at hi
          subst hi
          refine stepZl (o := { dst := none, op := _, type := _, pos := _, after := _, guard := _ }) rfl (fun K hK => ?_)
          go_simp
          refine hK _ _ ?_
          clear hK e0 y0 hSq
          (try simp only [Act.put, List.setIfInBounds_toArray, List.set_cons_zero, List.set_cons_succ])
          refine wpAnyZ_done (by kernel_rfl) ?_ _
          obtain ⟨wz, hwz⟩ : ∃ x, wq.setCell ⟨g6, 3, none⟩ (.slice E' (j + 1) ec') = x := ⟨_, rfl⟩
          rw [hwz] at HLM ⊢
          clear hwz
          have hwj : IntKind.i64.wrap ((j : Int) + 1) = (j : Int) + 1 := IntWalk.i64_in _ ⟨by omega, by omega⟩
          go_wp2_with fail
          go_roundw
          all_goals first
            | exact ScJ.mk _ (j + 1) (es ++ [1 + (r2 : Int)]) E' ec' (by omega) (by rw [List.length_append, List.length_singleton, hej]) hjlt (by intro t ht; rcases List.mem_append.1 ht with h | h; exact HES.out t h; rw [List.mem_singleton] at h; subst h; omega) HLM.out
            | omega
            | (simp [intOf]; done)
            | (simp [intOf]; omega)
        · skip
          have hjv : j = vn := by omega
          subst hjv
          go_wp2_with fail
          refine (num_any 2 g A n c bs wr (by omega) hc ls.ps.sw.pk).mono ?_
          rintro e wa ⟨ra, hra, rfl, hp, hf⟩
          have ls := ls.num hp hf
          clear hp hf c0
          have HLS := Lib.hid ls
          clear ls
          by_cases hr1 : ra = 1
          · subst hr1
            have c0 := HLS.out.ps.b4.cell 0 _ rfl
            go_wp2_with fail
            refine (num_any j g A n c bs wa (by omega) hc HLS.out.ps.sw.pk).mono ?_
            rintro e wb ⟨rb, hrb, rfl, hp, hf⟩
            have ls := HLS.out.num hp hf
            have hwb : IntKind.i64.wrap (1 + (rb : Int)) = 1 + (rb : Int) := IntWalk.i64_in _ ⟨by omega, by omega⟩
            have lp := ls.put 0 (.int .i64 (1 + (rb : Int))) (ls.b6.set_ 0 _)
            have x0 := ls.b6.cell 0 _ rfl
            have y0 := ls.b6.frozen 0
            clear hp hf HLS ls c0
            obtain ⟨wc, hwc⟩ : ∃ x, wb.setCell ⟨g6, 0, none⟩ (.int .i64 (1 + (rb : Int))) = x := ⟨_, rfl⟩
            rw [hwc] at lp
            have HLS := Lib.hid lp
            clear lp
            go_wp2_with fail
            clear hwc x0 y0
            refine (num_any 2 g A n c bs wc (by omega) hc HLS.out.ps.sw.pk).mono ?_
            rintro e wd ⟨rd, hrd, rfl, hp, hf⟩
            have ls := HLS.out.num hp hf
            clear hp hf HLS
            have HLS := Lib.hid ls
            clear ls
            by_cases hr2 : rd = 1
            · subst hr2
              have c0 := HLS.out.ps.b4.cell 0 _ rfl
              go_wp2_with fail
              refine (num_any j g A n c bs wd (by omega) hc HLS.out.ps.sw.pk).mono ?_
              rintro e we ⟨re, hre, rfl, hp, hf⟩
              have ls := HLS.out.num hp hf
              have hwe : IntKind.i64.wrap (1 + (re : Int)) = 1 + (re : Int) := IntWalk.i64_in _ ⟨by omega, by omega⟩
              clear hp hf HLS c0
              have HLS := Lib.hid ls
              clear ls
              go_wp2_with fail
              refine (num_any 4 g A n c bs we (by omega) hc HLS.out.ps.sw.pk).mono ?_
              rintro e wf ⟨rf, hrf, rfl, hp, hf⟩
              have ls := HLS.out.num hp hf
              have hwf : IntKind.i64.wrap (1 + (rf : Int)) = 1 + (rf : Int) := IntWalk.i64_in _ ⟨by omega, by omega⟩
              have lp := ls.put 1 (.int .i64 (1 + (re : Int))) (ls.b6.set_ 1 _)
              have x1 := ls.b6.cell 1 _ rfl
              have y1 := ls.b6.frozen 1
              clear hp hf HLS ls
              obtain ⟨wg, hwg⟩ : ∃ x, wf.setCell ⟨g6, 1, none⟩ (.int .i64 (1 + (re : Int))) = x := ⟨_, rfl⟩
              rw [hwg] at lp
              have x2 := lp.b6.cell 2 _ rfl
              have y2 := lp.b6.frozen 2
              have lq := lp.put 2 (.int .i64 (1 + (rf : Int))) (lp.b6.set_ 2 _)
              clear lp
              obtain ⟨wh, hwh⟩ : ∃ x, wg.setCell ⟨g6, 2, none⟩ (.int .i64 (1 + (rf : Int))) = x := ⟨_, rfl⟩
              rw [hwh] at lq
              have HLS := Lib.hid lq
              clear lq
              go_wp2_with fail
              clear x1 y1 x2 y2 hwg hwh
              have ls := HLS.out.later (Later.refl wh).drew
              clear HLS
              obtain ⟨wu, hwu⟩ : ∃ x, (wh).drew = x := ⟨_, rfl⟩
              refine wp_region_Z (S := (fun W : World => (W.cell? ⟨g4, 0, none⟩ = some (.slice V j vc) ∧ W.cell? ⟨g4, 1, none⟩ = some (.int .i64 L)) ∧ W.cell? ⟨g6, 0, none⟩ = some (.int .i64 (1 + (rb : Int))) ∧ W.cell? ⟨g6, 1, none⟩ = some (.int .i64 (1 + (re : Int))) ∧ W.cell? ⟨g6, 2, none⟩ = some (.int .i64 (1 + (rf : Int))) ∧ W.cell? ⟨g6, 3, none⟩ = some (.slice E j ec))) 3 (by kernel_rfl) ?_
              rw [hwu] at ls ⊢
              clear hwu
              have hS : (fun W : World => (W.cell? ⟨g4, 0, none⟩ = some (.slice V j vc) ∧ W.cell? ⟨g4, 1, none⟩ = some (.int .i64 L)) ∧ W.cell? ⟨g6, 0, none⟩ = some (.int .i64 (1 + (rb : Int))) ∧ W.cell? ⟨g6, 1, none⟩ = some (.int .i64 (1 + (re : Int))) ∧ W.cell? ⟨g6, 2, none⟩ = some (.int .i64 (1 + (rf : Int))) ∧ W.cell? ⟨g6, 3, none⟩ = some (.slice E j ec)) wu := ⟨⟨ls.ps.b4.cell 0 _ rfl, ls.ps.b4.cell 1 _ rfl⟩, ls.b6.cell 0 _ rfl, ls.b6.cell 1 _ rfl, ls.b6.cell 2 _ rfl, ls.b6.cell 3 _ rfl⟩
              refine wpAnyZ_take (i := 0) (oi := { dst := some 82, op := _, type := _, pos := _, after := _, guard := _ }) (v := ?_) rfl (by kernel_rfl) (by kernel_rfl) (by kernel_rfl) (by kernel_rfl) (fun _ _ _ h => h) (Or.inl ⟨by rfl, ?_⟩) hS ?_
              rotate_left
              focus ((intro w hSw; (try dsimp only at hSw); obtain ⟨⟨d0, d1⟩, d2, d3, d4, d5⟩ := hSw; go_simp); (try with_reducible rfl))
              (try simp only [Act.put, List.setIfInBounds_toArray, List.set_cons_zero, List.set_cons_succ])
              refine wpAnyZ_take (i := 1) (oi := { dst := some 83, op := _, type := _, pos := _, after := _, guard := _ }) (v := ?_) rfl (by kernel_rfl) (by kernel_rfl) (by kernel_rfl) (by kernel_rfl) (fun _ _ _ h => h) (Or.inl ⟨by rfl, ?_⟩) hS ?_
              rotate_left
              focus ((intro w hSw; (try dsimp only at hSw); obtain ⟨⟨d0, d1⟩, d2, d3, d4, d5⟩ := hSw; go_simp); (try with_reducible rfl))
              (try simp only [Act.put, List.setIfInBounds_toArray, List.set_cons_zero, List.set_cons_succ])
              refine wpAnyZ_all (rs := [2]) (by kernel_rfl) (by simp) (fun i hi => ?_)
              simp only [List.mem_cons, List.not_mem_nil, or_false] at hi
              subst hi
              have rs := ls.rs
              have b2 := ls.ps.sw.b2
              have b3 := ls.ps.sw.b3
              have b4 := ls.ps.b4
              have b6 := ls.b6
              have hne4 : g4 ≠ h0 := by omega
              have hne6 : g6 ≠ h0 := fun e => ls.k6 (.inl (e.trans hh0.symm))
              rw [hh0] at b2 b3
              clear ls
              have x0 := b2.cell 0 _ rfl
              have y0 := b2.frozen 0
              have b2 := b2.set_ 0 (.slice V j vc)
              have b3 := b3.off (p := ⟨h0, 0, none⟩) (by show h0 + 1 ≠ h0; omega) (.slice V j vc)
              have b4 := b4.off (p := ⟨h0, 0, none⟩) hne4 (.slice V j vc)
              have b6 := b6.off (p := ⟨h0, 0, none⟩) hne6 (.slice V j vc)
              have rs := rs.set_ 0 (.slice V j vc) (.inl hh0.symm)
              obtain ⟨wu1, hwu1⟩ : ∃ x, wu.setCell ⟨h0, 0, none⟩ (.slice V j vc) = x := ⟨_, rfl⟩
              rw [hwu1] at b2 b3 b4 b6 rs
              have x1 := b2.cell 1 _ rfl
              have y1 := b2.frozen 1
              have b2 := b2.set_ 1 (.int .i64 L)
              have b3 := b3.off (p := ⟨h0, 1, none⟩) (by show h0 + 1 ≠ h0; omega) (.int .i64 L)
              have b4 := b4.off (p := ⟨h0, 1, none⟩) hne4 (.int .i64 L)
              have b6 := b6.off (p := ⟨h0, 1, none⟩) hne6 (.int .i64 L)
              have rs := rs.set_ 1 (.int .i64 L) (.inl hh0.symm)
              obtain ⟨wu2, hwu2⟩ : ∃ x, wu1.setCell ⟨h0, 1, none⟩ (.int .i64 L) = x := ⟨_, rfl⟩
              rw [hwu2] at b2 b3 b4 b6 rs
              refine stepZ (o := { dst := none, op := _, type := _, pos := _, after := _, guard := _ }) rfl (fun K hK => ?_)
              go_simp
              refine hK _ _ ⟨⟨b4.cell 0 _ rfl, b4.cell 1 _ rfl⟩, b6.cell 0 _ rfl, b6.cell 1 _ rfl, b6.cell 2 _ rfl, b6.cell 3 _ rfl⟩ ?_
              clear hK x0 y0 x1 y1 hwu1 hwu2 b4 b6 hS
              (try simp only [Act.put, List.setIfInBounds_toArray, List.set_cons_zero, List.set_cons_succ])
              refine wpAnyZ_all (rs := [3]) (by kernel_rfl) (by simp) (fun i hi => ?_)
              simp only [List.mem_cons, List.not_mem_nil, or_false] at hi
              subst hi
              have x0 := b3.cell 0 _ rfl
              have y0 := b3.frozen 0
              have b3 := b3.set_ 0 (.int .i64 (1 + (rb : Int)))
              have b2 := b2.off (p := ⟨h0 + 1, 0, none⟩) (by show h0 ≠ h0 + 1; omega) (.int .i64 (1 + (rb : Int)))
              have rs := rs.set_ 0 (.int .i64 (1 + (rb : Int))) (q := h0 + 1) (.inr (by omega))
              obtain ⟨wv0, hwv0⟩ : ∃ x, (wu2).setCell ⟨h0 + 1, 0, none⟩ (.int .i64 (1 + (rb : Int))) = x := ⟨_, rfl⟩
              rw [hwv0] at b2 b3 rs
              have x1 := b3.cell 1 _ rfl
              have y1 := b3.frozen 1
              have b3 := b3.set_ 1 (.int .i64 (1 + (re : Int)))
              have b2 := b2.off (p := ⟨h0 + 1, 1, none⟩) (by show h0 ≠ h0 + 1; omega) (.int .i64 (1 + (re : Int)))
              have rs := rs.set_ 1 (.int .i64 (1 + (re : Int))) (q := h0 + 1) (.inr (by omega))
              obtain ⟨wv1, hwv1⟩ : ∃ x, (wv0).setCell ⟨h0 + 1, 1, none⟩ (.int .i64 (1 + (re : Int))) = x := ⟨_, rfl⟩
              rw [hwv1] at b2 b3 rs
              have x2 := b3.cell 2 _ rfl
              have y2 := b3.frozen 2
              have b3 := b3.set_ 2 (.int .i64 (1 + (rf : Int)))
              have b2 := b2.off (p := ⟨h0 + 1, 2, none⟩) (by show h0 ≠ h0 + 1; omega) (.int .i64 (1 + (rf : Int)))
              have rs := rs.set_ 2 (.int .i64 (1 + (rf : Int))) (q := h0 + 1) (.inr (by omega))
              obtain ⟨wv2, hwv2⟩ : ∃ x, (wv1).setCell ⟨h0 + 1, 2, none⟩ (.int .i64 (1 + (rf : Int))) = x := ⟨_, rfl⟩
              rw [hwv2] at b2 b3 rs
              have x3 := b3.cell 3 _ rfl
              have y3 := b3.frozen 3
              have b3 := b3.set_ 3 (.slice E j ec)
              have b2 := b2.off (p := ⟨h0 + 1, 3, none⟩) (by show h0 ≠ h0 + 1; omega) (.slice E j ec)
              have rs := rs.set_ 3 (.slice E j ec) (q := h0 + 1) (.inr (by omega))
              obtain ⟨wv3, hwv3⟩ : ∃ x, (wv2).setCell ⟨h0 + 1, 3, none⟩ (.slice E j ec) = x := ⟨_, rfl⟩
              rw [hwv3] at b2 b3 rs
              refine stepZl (o := { dst := none, op := _, type := _, pos := _, after := _, guard := _ }) rfl (fun K hK => ?_)
              go_simp
              refine hK _ _ ?_
              clear hK x0 y0 x1 y1 x2 y2 x3 y3 hwv0 hwv1 hwv2 hwv3
              (try simp only [Act.put, List.setIfInBounds_toArray, List.set_cons_zero, List.set_cons_succ])
              refine wpAnyZ_done (by kernel_rfl) ?_ _
              have p0 : wv3.cell? ⟨h0, 0, none⟩ = some (.slice V j vc) := b2.cell 0 _ rfl
              have p1 : wv3.cell? ⟨h0, 1, none⟩ = some (.int .i64 L) := b2.cell 1 _ rfl
              have q0 : wv3.cell? ⟨h0 + 1, 0, none⟩ = some (.int .i64 (1 + (rb : Int))) := b3.cell 0 _ rfl
              have q1 : wv3.cell? ⟨h0 + 1, 1, none⟩ = some (.int .i64 (1 + (re : Int))) := b3.cell 1 _ rfl
              have q2 : wv3.cell? ⟨h0 + 1, 2, none⟩ = some (.int .i64 (1 + (rf : Int))) := b3.cell 2 _ rfl
              have q3 : wv3.cell? ⟨h0 + 1, 3, none⟩ = some (.slice E j ec) := b3.cell 3 _ rfl
              go_wp2_with fail
              (try simp only [Exit.inBlock, Exit.then])
              refine bodyPost_ret (results_cell2 rfl _ _ h0 _ _ _ rfl b2 Tryd.underlying33 rfl (by kernel_rfl) (h0 + 1) _ _ _ rfl b3 Tryd.underlying36 rfl (by kernel_rfl)) rfl ?_
              exact SchemaP.mk HVN.out htl HL.out HXS.out hm ht0b HTS.out hej HES.out (by unfold Lay; omega) rs
            · have hr2f : ((rd : Int) == 1) = false := by rw [beq_eq_false_iff_ne]; omega
              go_wp2_with fail
              have ls := HLS.out.later (Later.refl wd).drew
              clear HLS
              obtain ⟨wu, hwu⟩ : ∃ x, (wd).drew = x := ⟨_, rfl⟩
              refine wp_region_Z (S := (fun W : World => (W.cell? ⟨g4, 0, none⟩ = some (.slice V j vc) ∧ W.cell? ⟨g4, 1, none⟩ = some (.int .i64 L)) ∧ W.cell? ⟨g6, 0, none⟩ = some (.int .i64 (1 + (rb : Int))) ∧ W.cell? ⟨g6, 1, none⟩ = some (.int .i64 (0)) ∧ W.cell? ⟨g6, 2, none⟩ = some (.int .i64 (1)) ∧ W.cell? ⟨g6, 3, none⟩ = some (.slice E j ec))) 3 (by kernel_rfl) ?_
              rw [hwu] at ls ⊢
              clear hwu
              have hS : (fun W : World => (W.cell? ⟨g4, 0, none⟩ = some (.slice V j vc) ∧ W.cell? ⟨g4, 1, none⟩ = some (.int .i64 L)) ∧ W.cell? ⟨g6, 0, none⟩ = some (.int .i64 (1 + (rb : Int))) ∧ W.cell? ⟨g6, 1, none⟩ = some (.int .i64 (0)) ∧ W.cell? ⟨g6, 2, none⟩ = some (.int .i64 (1)) ∧ W.cell? ⟨g6, 3, none⟩ = some (.slice E j ec)) wu := ⟨⟨ls.ps.b4.cell 0 _ rfl, ls.ps.b4.cell 1 _ rfl⟩, ls.b6.cell 0 _ rfl, ls.b6.cell 1 _ rfl, ls.b6.cell 2 _ rfl, ls.b6.cell 3 _ rfl⟩
              refine wpAnyZ_take (i := 0) (oi := { dst := some 82, op := _, type := _, pos := _, after := _, guard := _ }) (v := ?_) rfl (by kernel_rfl) (by kernel_rfl) (by kernel_rfl) (by kernel_rfl) (fun _ _ _ h => h) (Or.inl ⟨by rfl, ?_⟩) hS ?_
              rotate_left
              focus ((intro w hSw; (try dsimp only at hSw); obtain ⟨⟨d0, d1⟩, d2, d3, d4, d5⟩ := hSw; go_simp); (try with_reducible rfl))
              (try simp only [Act.put, List.setIfInBounds_toArray, List.set_cons_zero, List.set_cons_succ])
              refine wpAnyZ_take (i := 1) (oi := { dst := some 83, op := _, type := _, pos := _, after := _, guard := _ }) (v := ?_) rfl (by kernel_rfl) (by kernel_rfl) (by kernel_rfl) (by kernel_rfl) (fun _ _ _ h => h) (Or.inl ⟨by rfl, ?_⟩) hS ?_
              rotate_left
              focus ((intro w hSw; (try dsimp only at hSw); obtain ⟨⟨d0, d1⟩, d2, d3, d4, d5⟩ := hSw; go_simp); (try with_reducible rfl))
              (try simp only [Act.put, List.setIfInBounds_toArray, List.set_cons_zero, List.set_cons_succ])
              refine wpAnyZ_all (rs := [2]) (by kernel_rfl) (by simp) (fun i hi => ?_)
              simp only [List.mem_cons, List.not_mem_nil, or_false] at hi
              subst hi
              have rs := ls.rs
              have b2 := ls.ps.sw.b2
              have b3 := ls.ps.sw.b3
              have b4 := ls.ps.b4
              have b6 := ls.b6
              have hne4 : g4 ≠ h0 := by omega
              have hne6 : g6 ≠ h0 := fun e => ls.k6 (.inl (e.trans hh0.symm))
              rw [hh0] at b2 b3
              clear ls
              have x0 := b2.cell 0 _ rfl
              have y0 := b2.frozen 0
              have b2 := b2.set_ 0 (.slice V j vc)
              have b3 := b3.off (p := ⟨h0, 0, none⟩) (by show h0 + 1 ≠ h0; omega) (.slice V j vc)
              have b4 := b4.off (p := ⟨h0, 0, none⟩) hne4 (.slice V j vc)
              have b6 := b6.off (p := ⟨h0, 0, none⟩) hne6 (.slice V j vc)
              have rs := rs.set_ 0 (.slice V j vc) (.inl hh0.symm)
              obtain ⟨wu1, hwu1⟩ : ∃ x, wu.setCell ⟨h0, 0, none⟩ (.slice V j vc) = x := ⟨_, rfl⟩
              rw [hwu1] at b2 b3 b4 b6 rs
              have x1 := b2.cell 1 _ rfl
              have y1 := b2.frozen 1
              have b2 := b2.set_ 1 (.int .i64 L)
              have b3 := b3.off (p := ⟨h0, 1, none⟩) (by show h0 + 1 ≠ h0; omega) (.int .i64 L)
              have b4 := b4.off (p := ⟨h0, 1, none⟩) hne4 (.int .i64 L)
              have b6 := b6.off (p := ⟨h0, 1, none⟩) hne6 (.int .i64 L)
              have rs := rs.set_ 1 (.int .i64 L) (.inl hh0.symm)
              obtain ⟨wu2, hwu2⟩ : ∃ x, wu1.setCell ⟨h0, 1, none⟩ (.int .i64 L) = x := ⟨_, rfl⟩
              rw [hwu2] at b2 b3 b4 b6 rs
              refine stepZ (o := { dst := none, op := _, type := _, pos := _, after := _, guard := _ }) rfl (fun K hK => ?_)
              go_simp
              refine hK _ _ ⟨⟨b4.cell 0 _ rfl, b4.cell 1 _ rfl⟩, b6.cell 0 _ rfl, b6.cell 1 _ rfl, b6.cell 2 _ rfl, b6.cell 3 _ rfl⟩ ?_
              clear hK x0 y0 x1 y1 hwu1 hwu2 b4 b6 hS
              (try simp only [Act.put, List.setIfInBounds_toArray, List.set_cons_zero, List.set_cons_succ])
              refine wpAnyZ_all (rs := [3]) (by kernel_rfl) (by simp) (fun i hi => ?_)
              simp only [List.mem_cons, List.not_mem_nil, or_false] at hi
              subst hi
              have x0 := b3.cell 0 _ rfl
              have y0 := b3.frozen 0
              have b3 := b3.set_ 0 (.int .i64 (1 + (rb : Int)))
              have b2 := b2.off (p := ⟨h0 + 1, 0, none⟩) (by show h0 ≠ h0 + 1; omega) (.int .i64 (1 + (rb : Int)))
              have rs := rs.set_ 0 (.int .i64 (1 + (rb : Int))) (q := h0 + 1) (.inr (by omega))
              obtain ⟨wv0, hwv0⟩ : ∃ x, (wu2).setCell ⟨h0 + 1, 0, none⟩ (.int .i64 (1 + (rb : Int))) = x := ⟨_, rfl⟩
              rw [hwv0] at b2 b3 rs
              have x1 := b3.cell 1 _ rfl
              have y1 := b3.frozen 1
              have b3 := b3.set_ 1 (.int .i64 (0))
              have b2 := b2.off (p := ⟨h0 + 1, 1, none⟩) (by show h0 ≠ h0 + 1; omega) (.int .i64 (0))
              have rs := rs.set_ 1 (.int .i64 (0)) (q := h0 + 1) (.inr (by omega))
              obtain ⟨wv1, hwv1⟩ : ∃ x, (wv0).setCell ⟨h0 + 1, 1, none⟩ (.int .i64 (0)) = x := ⟨_, rfl⟩
              rw [hwv1] at b2 b3 rs
              have x2 := b3.cell 2 _ rfl
              have y2 := b3.frozen 2
              have b3 := b3.set_ 2 (.int .i64 (1))
              have b2 := b2.off (p := ⟨h0 + 1, 2, none⟩) (by show h0 ≠ h0 + 1; omega) (.int .i64 (1))
              have rs := rs.set_ 2 (.int .i64 (1)) (q := h0 + 1) (.inr (by omega))
              obtain ⟨wv2, hwv2⟩ : ∃ x, (wv1).setCell ⟨h0 + 1, 2, none⟩ (.int .i64 (1)) = x := ⟨_, rfl⟩
              rw [hwv2] at b2 b3 rs
              have x3 := b3.cell 3 _ rfl
              have y3 := b3.frozen 3
              have b3 := b3.set_ 3 (.slice E j ec)
              have b2 := b2.off (p := ⟨h0 + 1, 3, none⟩) (by show h0 ≠ h0 + 1; omega) (.slice E j ec)
              have rs := rs.set_ 3 (.slice E j ec) (q := h0 + 1) (.inr (by omega))
              obtain ⟨wv3, hwv3⟩ : ∃ x, (wv2).setCell ⟨h0 + 1, 3, none⟩ (.slice E j ec) = x := ⟨_, rfl⟩
              rw [hwv3] at b2 b3 rs
              refine stepZl (o := { dst := none, op := _, type := _, pos := _, after := _, guard := _ }) rfl (fun K hK => ?_)
              go_simp
              refine hK _ _ ?_
              clear hK x0 y0 x1 y1 x2 y2 x3 y3 hwv0 hwv1 hwv2 hwv3
              (try simp only [Act.put, List.setIfInBounds_toArray, List.set_cons_zero, List.set_cons_succ])
              refine wpAnyZ_done (by kernel_rfl) ?_ _
              have p0 : wv3.cell? ⟨h0, 0, none⟩ = some (.slice V j vc) := b2.cell 0 _ rfl
              have p1 : wv3.cell? ⟨h0, 1, none⟩ = some (.int .i64 L) := b2.cell 1 _ rfl
              have q0 : wv3.cell? ⟨h0 + 1, 0, none⟩ = some (.int .i64 (1 + (rb : Int))) := b3.cell 0 _ rfl
              have q1 : wv3.cell? ⟨h0 + 1, 1, none⟩ = some (.int .i64 (0)) := b3.cell 1 _ rfl
              have q2 : wv3.cell? ⟨h0 + 1, 2, none⟩ = some (.int .i64 (1)) := b3.cell 2 _ rfl
              have q3 : wv3.cell? ⟨h0 + 1, 3, none⟩ = some (.slice E j ec) := b3.cell 3 _ rfl
              go_wp2_with fail
              (try simp only [Exit.inBlock, Exit.then])
              refine bodyPost_ret (results_cell2 rfl _ _ h0 _ _ _ rfl b2 Tryd.underlying33 rfl (by kernel_rfl) (h0 + 1) _ _ _ rfl b3 Tryd.underlying36 rfl (by kernel_rfl)) rfl ?_
              exact SchemaP.mk HVN.out htl HL.out HXS.out hm ht0b HTS.out hej HES.out (by unfold Lay; omega) rs
          · have hr1f : ((ra : Int) == 1) = false := by rw [beq_eq_false_iff_ne]; omega
            go_wp2_with fail
            refine (num_any 2 g A n c bs wa (by omega) hc HLS.out.ps.sw.pk).mono ?_
            rintro e wd ⟨rd, hrd, rfl, hp, hf⟩
            have ls := HLS.out.num hp hf
            clear hp hf HLS
            have HLS := Lib.hid ls
            clear ls
            by_cases hr2 : rd = 1
            · subst hr2
              have c0 := HLS.out.ps.b4.cell 0 _ rfl
              go_wp2_with fail
              refine (num_any j g A n c bs wd (by omega) hc HLS.out.ps.sw.pk).mono ?_
              rintro e we ⟨re, hre, rfl, hp, hf⟩
              have ls := HLS.out.num hp hf
              have hwe : IntKind.i64.wrap (1 + (re : Int)) = 1 + (re : Int) := IntWalk.i64_in _ ⟨by omega, by omega⟩
              clear hp hf HLS c0
              have HLS := Lib.hid ls
              clear ls
              go_wp2_with fail
              refine (num_any 4 g A n c bs we (by omega) hc HLS.out.ps.sw.pk).mono ?_
              rintro e wf ⟨rf, hrf, rfl, hp, hf⟩
              have ls := HLS.out.num hp hf
              have hwf : IntKind.i64.wrap (1 + (rf : Int)) = 1 + (rf : Int) := IntWalk.i64_in _ ⟨by omega, by omega⟩
              have lp := ls.put 1 (.int .i64 (1 + (re : Int))) (ls.b6.set_ 1 _)
              have x1 := ls.b6.cell 1 _ rfl
              have y1 := ls.b6.frozen 1
              clear hp hf HLS ls
              obtain ⟨wg, hwg⟩ : ∃ x, wf.setCell ⟨g6, 1, none⟩ (.int .i64 (1 + (re : Int))) = x := ⟨_, rfl⟩
              rw [hwg] at lp
              have x2 := lp.b6.cell 2 _ rfl
              have y2 := lp.b6.frozen 2
              have lq := lp.put 2 (.int .i64 (1 + (rf : Int))) (lp.b6.set_ 2 _)
              clear lp
              obtain ⟨wh, hwh⟩ : ∃ x, wg.setCell ⟨g6, 2, none⟩ (.int .i64 (1 + (rf : Int))) = x := ⟨_, rfl⟩
              rw [hwh] at lq
              have HLS := Lib.hid lq
              clear lq
              go_wp2_with fail
              clear x1 y1 x2 y2 hwg hwh
              have ls := HLS.out.later (Later.refl wh).drew
              clear HLS
              obtain ⟨wu, hwu⟩ : ∃ x, (wh).drew = x := ⟨_, rfl⟩
              refine wp_region_Z (S := (fun W : World => (W.cell? ⟨g4, 0, none⟩ = some (.slice V j vc) ∧ W.cell? ⟨g4, 1, none⟩ = some (.int .i64 L)) ∧ W.cell? ⟨g6, 0, none⟩ = some (.int .i64 (0)) ∧ W.cell? ⟨g6, 1, none⟩ = some (.int .i64 (1 + (re : Int))) ∧ W.cell? ⟨g6, 2, none⟩ = some (.int .i64 (1 + (rf : Int))) ∧ W.cell? ⟨g6, 3, none⟩ = some (.slice E j ec))) 3 (by kernel_rfl) ?_
              rw [hwu] at ls ⊢
              clear hwu
              have hS : (fun W : World => (W.cell? ⟨g4, 0, none⟩ = some (.slice V j vc) ∧ W.cell? ⟨g4, 1, none⟩ = some (.int .i64 L)) ∧ W.cell? ⟨g6, 0, none⟩ = some (.int .i64 (0)) ∧ W.cell? ⟨g6, 1, none⟩ = some (.int .i64 (1 + (re : Int))) ∧ W.cell? ⟨g6, 2, none⟩ = some (.int .i64 (1 + (rf : Int))) ∧ W.cell? ⟨g6, 3, none⟩ = some (.slice E j ec)) wu := ⟨⟨ls.ps.b4.cell 0 _ rfl, ls.ps.b4.cell 1 _ rfl⟩, ls.b6.cell 0 _ rfl, ls.b6.cell 1 _ rfl, ls.b6.cell 2 _ rfl, ls.b6.cell 3 _ rfl⟩
              refine wpAnyZ_take (i := 0) (oi := { dst := some 82, op := _, type := _, pos := _, after := _, guard := _ }) (v := ?_) rfl (by kernel_rfl) (by kernel_rfl) (by kernel_rfl) (by kernel_rfl) (fun _ _ _ h => h) (Or.inl ⟨by rfl, ?_⟩) hS ?_
              rotate_left
              focus ((intro w hSw; (try dsimp only at hSw); obtain ⟨⟨d0, d1⟩, d2, d3, d4, d5⟩ := hSw; go_simp); (try with_reducible rfl))
              (try simp only [Act.put, List.setIfInBounds_toArray, List.set_cons_zero, List.set_cons_succ])
              refine wpAnyZ_take (i := 1) (oi := { dst := some 83, op := _, type := _, pos := _, after := _, guard := _ }) (v := ?_) rfl (by kernel_rfl) (by kernel_rfl) (by kernel_rfl) (by kernel_rfl) (fun _ _ _ h => h) (Or.inl ⟨by rfl, ?_⟩) hS ?_
              rotate_left
              focus ((intro w hSw; (try dsimp only at hSw); obtain ⟨⟨d0, d1⟩, d2, d3, d4, d5⟩ := hSw; go_simp); (try with_reducible rfl))
              (try simp only [Act.put, List.setIfInBounds_toArray, List.set_cons_zero, List.set_cons_succ])
              refine wpAnyZ_all (rs := [2]) (by kernel_rfl) (by simp) (fun i hi => ?_)
              simp only [List.mem_cons, List.not_mem_nil, or_false] at hi
              subst hi
              have rs := ls.rs
              have b2 := ls.ps.sw.b2
              have b3 := ls.ps.sw.b3
              have b4 := ls.ps.b4
              have b6 := ls.b6
              have hne4 : g4 ≠ h0 := by omega
              have hne6 : g6 ≠ h0 := fun e => ls.k6 (.inl (e.trans hh0.symm))
              rw [hh0] at b2 b3
              clear ls
              have x0 := b2.cell 0 _ rfl
              have y0 := b2.frozen 0
              have b2 := b2.set_ 0 (.slice V j vc)
              have b3 := b3.off (p := ⟨h0, 0, none⟩) (by show h0 + 1 ≠ h0; omega) (.slice V j vc)
              have b4 := b4.off (p := ⟨h0, 0, none⟩) hne4 (.slice V j vc)
              have b6 := b6.off (p := ⟨h0, 0, none⟩) hne6 (.slice V j vc)
              have rs := rs.set_ 0 (.slice V j vc) (.inl hh0.symm)
              obtain ⟨wu1, hwu1⟩ : ∃ x, wu.setCell ⟨h0, 0, none⟩ (.slice V j vc) = x := ⟨_, rfl⟩
              rw [hwu1] at b2 b3 b4 b6 rs
              have x1 := b2.cell 1 _ rfl
              have y1 := b2.frozen 1
              have b2 := b2.set_ 1 (.int .i64 L)
              have b3 := b3.off (p := ⟨h0, 1, none⟩) (by show h0 + 1 ≠ h0; omega) (.int .i64 L)
              have b4 := b4.off (p := ⟨h0, 1, none⟩) hne4 (.int .i64 L)
              have b6 := b6.off (p := ⟨h0, 1, none⟩) hne6 (.int .i64 L)
              have rs := rs.set_ 1 (.int .i64 L) (.inl hh0.symm)
              obtain ⟨wu2, hwu2⟩ : ∃ x, wu1.setCell ⟨h0, 1, none⟩ (.int .i64 L) = x := ⟨_, rfl⟩
              rw [hwu2] at b2 b3 b4 b6 rs
              refine stepZ (o := { dst := none, op := _, type := _, pos := _, after := _, guard := _ }) rfl (fun K hK => ?_)
              go_simp
              refine hK _ _ ⟨⟨b4.cell 0 _ rfl, b4.cell 1 _ rfl⟩, b6.cell 0 _ rfl, b6.cell 1 _ rfl, b6.cell 2 _ rfl, b6.cell 3 _ rfl⟩ ?_
              clear hK x0 y0 x1 y1 hwu1 hwu2 b4 b6 hS
              (try simp only [Act.put, List.setIfInBounds_toArray, List.set_cons_zero, List.set_cons_succ])
              refine wpAnyZ_all (rs := [3]) (by kernel_rfl) (by simp) (fun i hi => ?_)
              simp only [List.mem_cons, List.not_mem_nil, or_false] at hi
              subst hi
              have x0 := b3.cell 0 _ rfl
              have y0 := b3.frozen 0
              have b3 := b3.set_ 0 (.int .i64 (0))
              have b2 := b2.off (p := ⟨h0 + 1, 0, none⟩) (by show h0 ≠ h0 + 1; omega) (.int .i64 (0))
              have rs := rs.set_ 0 (.int .i64 (0)) (q := h0 + 1) (.inr (by omega))
              obtain ⟨wv0, hwv0⟩ : ∃ x, (wu2).setCell ⟨h0 + 1, 0, none⟩ (.int .i64 (0)) = x := ⟨_, rfl⟩
              rw [hwv0] at b2 b3 rs
              have x1 := b3.cell 1 _ rfl
              have y1 := b3.frozen 1
              have b3 := b3.set_ 1 (.int .i64 (1 + (re : Int)))
              have b2 := b2.off (p := ⟨h0 + 1, 1, none⟩) (by show h0 ≠ h0 + 1; omega) (.int .i64 (1 + (re : Int)))
              have rs := rs.set_ 1 (.int .i64 (1 + (re : Int))) (q := h0 + 1) (.inr (by omega))
              obtain ⟨wv1, hwv1⟩ : ∃ x, (wv0).setCell ⟨h0 + 1, 1, none⟩ (.int .i64 (1 + (re : Int))) = x := ⟨_, rfl⟩
              rw [hwv1] at b2 b3 rs
              have x2 := b3.cell 2 _ rfl
              have y2 := b3.frozen 2
              have b3 := b3.set_ 2 (.int .i64 (1 + (rf : Int)))
              have b2 := b2.off (p := ⟨h0 + 1, 2, none⟩) (by show h0 ≠ h0 + 1; omega) (.int .i64 (1 + (rf : Int)))
              have rs := rs.set_ 2 (.int .i64 (1 + (rf : Int))) (q := h0 + 1) (.inr (by omega))
              obtain ⟨wv2, hwv2⟩ : ∃ x, (wv1).setCell ⟨h0 + 1, 2, none⟩ (.int .i64 (1 + (rf : Int))) = x := ⟨_, rfl⟩
              rw [hwv2] at b2 b3 rs
              have x3 := b3.cell 3 _ rfl
              have y3 := b3.frozen 3
              have b3 := b3.set_ 3 (.slice E j ec)
              have b2 := b2.off (p := ⟨h0 + 1, 3, none⟩) (by show h0 ≠ h0 + 1; omega) (.slice E j ec)
              have rs := rs.set_ 3 (.slice E j ec) (q := h0 + 1) (.inr (by omega))
              obtain ⟨wv3, hwv3⟩ : ∃ x, (wv2).setCell ⟨h0 + 1, 3, none⟩ (.slice E j ec) = x := ⟨_, rfl⟩
              rw [hwv3] at b2 b3 rs
              refine stepZl (o := { dst := none, op := _, type := _, pos := _, after := _, guard := _ }) rfl (fun K hK => ?_)
              go_simp
              refine hK _ _ ?_
              clear hK x0 y0 x1 y1 x2 y2 x3 y3 hwv0 hwv1 hwv2 hwv3
              (try simp only [Act.put, List.setIfInBounds_toArray, List.set_cons_zero, List.set_cons_succ])
              refine wpAnyZ_done (by kernel_rfl) ?_ _
              have p0 : wv3.cell? ⟨h0, 0, none⟩ = some (.slice V j vc) := b2.cell 0 _ rfl
              have p1 : wv3.cell? ⟨h0, 1, none⟩ = some (.int .i64 L) := b2.cell 1 _ rfl
              have q0 : wv3.cell? ⟨h0 + 1, 0, none⟩ = some (.int .i64 (0)) := b3.cell 0 _ rfl
              have q1 : wv3.cell? ⟨h0 + 1, 1, none⟩ = some (.int .i64 (1 + (re : Int))) := b3.cell 1 _ rfl
              have q2 : wv3.cell? ⟨h0 + 1, 2, none⟩ = some (.int .i64 (1 + (rf : Int))) := b3.cell 2 _ rfl
              have q3 : wv3.cell? ⟨h0 + 1, 3, none⟩ = some (.slice E j ec) := b3.cell 3 _ rfl
              go_wp2_with fail
              (try simp only [Exit.inBlock, Exit.then])
              refine bodyPost_ret (results_cell2 rfl _ _ h0 _ _ _ rfl b2 Tryd.underlying33 rfl (by kernel_rfl) (h0 + 1) _ _ _ rfl b3 Tryd.underlying36 rfl (by kernel_rfl)) rfl ?_
              exact SchemaP.mk HVN.out htl HL.out HXS.out hm ht0b HTS.out hej HES.out (by unfold Lay; omega) rs
            · have hr2f : ((rd : Int) == 1) = false := by rw [beq_eq_false_iff_ne]; omega
              go_wp2_with fail
              have ls := HLS.out.later (Later.refl wd).drew
              clear HLS
              obtain ⟨wu, hwu⟩ : ∃ x, (wd).drew = x := ⟨_, rfl⟩
              refine wp_region_Z (S := (fun W : World => (W.cell? ⟨g4, 0, none⟩ = some (.slice V j vc) ∧ W.cell? ⟨g4, 1, none⟩ = some (.int .i64 L)) ∧ W.cell? ⟨g6, 0, none⟩ = some (.int .i64 (0)) ∧ W.cell? ⟨g6, 1, none⟩ = some (.int .i64 (0)) ∧ W.cell? ⟨g6, 2, none⟩ = some (.int .i64 (1)) ∧ W.cell? ⟨g6, 3, none⟩ = some (.slice E j ec))) 3 (by kernel_rfl) ?_
              rw [hwu] at ls ⊢
              clear hwu
              have hS : (fun W : World => (W.cell? ⟨g4, 0, none⟩ = some (.slice V j vc) ∧ W.cell? ⟨g4, 1, none⟩ = some (.int .i64 L)) ∧ W.cell? ⟨g6, 0, none⟩ = some (.int .i64 (0)) ∧ W.cell? ⟨g6, 1, none⟩ = some (.int .i64 (0)) ∧ W.cell? ⟨g6, 2, none⟩ = some (.int .i64 (1)) ∧ W.cell? ⟨g6, 3, none⟩ = some (.slice E j ec)) wu := ⟨⟨ls.ps.b4.cell 0 _ rfl, ls.ps.b4.cell 1 _ rfl⟩, ls.b6.cell 0 _ rfl, ls.b6.cell 1 _ rfl, ls.b6.cell 2 _ rfl, ls.b6.cell 3 _ rfl⟩
              refine wpAnyZ_take (i := 0) (oi := { dst := some 82, op := _, type := _, pos := _, after := _, guard := _ }) (v := ?_) rfl (by kernel_rfl) (by kernel_rfl) (by kernel_rfl) (by kernel_rfl) (fun _ _ _ h => h) (Or.inl ⟨by rfl, ?_⟩) hS ?_
              rotate_left
              focus ((intro w hSw; (try dsimp only at hSw); obtain ⟨⟨d0, d1⟩, d2, d3, d4, d5⟩ := hSw; go_simp); (try with_reducible rfl))
              (try simp only [Act.put, List.setIfInBounds_toArray, List.set_cons_zero, List.set_cons_succ])
              refine wpAnyZ_take (i := 1) (oi := { dst := some 83, op := _, type := _, pos := _, after := _, guard := _ }) (v := ?_) rfl (by kernel_rfl) (by kernel_rfl) (by kernel_rfl) (by kernel_rfl) (fun _ _ _ h => h) (Or.inl ⟨by rfl, ?_⟩) hS ?_
              rotate_left
              focus ((intro w hSw; (try dsimp only at hSw); obtain ⟨⟨d0, d1⟩, d2, d3, d4, d5⟩ := hSw; go_simp); (try with_reducible rfl))
              (try simp only [Act.put, List.setIfInBounds_toArray, List.set_cons_zero, List.set_cons_succ])
              refine wpAnyZ_all (rs := [2]) (by kernel_rfl) (by simp) (fun i hi => ?_)
              simp only [List.mem_cons, List.not_mem_nil, or_false] at hi
              subst hi
              have rs := ls.rs
              have b2 := ls.ps.sw.b2
              have b3 := ls.ps.sw.b3
              have b4 := ls.ps.b4
              have b6 := ls.b6
              have hne4 : g4 ≠ h0 := by omega
              have hne6 : g6 ≠ h0 := fun e => ls.k6 (.inl (e.trans hh0.symm))
              rw [hh0] at b2 b3
              clear ls
              have x0 := b2.cell 0 _ rfl
              have y0 := b2.frozen 0
              have b2 := b2.set_ 0 (.slice V j vc)
              have b3 := b3.off (p := ⟨h0, 0, none⟩) (by show h0 + 1 ≠ h0; omega) (.slice V j vc)
              have b4 := b4.off (p := ⟨h0, 0, none⟩) hne4 (.slice V j vc)
              have b6 := b6.off (p := ⟨h0, 0, none⟩) hne6 (.slice V j vc)
              have rs := rs.set_ 0 (.slice V j vc) (.inl hh0.symm)
              obtain ⟨wu1, hwu1⟩ : ∃ x, wu.setCell ⟨h0, 0, none⟩ (.slice V j vc) = x := ⟨_, rfl⟩
              rw [hwu1] at b2 b3 b4 b6 rs
              have x1 := b2.cell 1 _ rfl
              have y1 := b2.frozen 1
              have b2 := b2.set_ 1 (.int .i64 L)
              have b3 := b3.off (p := ⟨h0, 1, none⟩) (by show h0 + 1 ≠ h0; omega) (.int .i64 L)
              have b4 := b4.off (p := ⟨h0, 1, none⟩) hne4 (.int .i64 L)
              have b6 := b6.off (p := ⟨h0, 1, none⟩) hne6 (.int .i64 L)
              have rs := rs.set_ 1 (.int .i64 L) (.inl hh0.symm)
              obtain ⟨wu2, hwu2⟩ : ∃ x, wu1.setCell ⟨h0, 1, none⟩ (.int .i64 L) = x := ⟨_, rfl⟩
              rw [hwu2] at b2 b3 b4 b6 rs
              refine stepZ (o := { dst := none, op := _, type := _, pos := _, after := _, guard := _ }) rfl (fun K hK => ?_)
              go_simp
              refine hK _ _ ⟨⟨b4.cell 0 _ rfl, b4.cell 1 _ rfl⟩, b6.cell 0 _ rfl, b6.cell 1 _ rfl, b6.cell 2 _ rfl, b6.cell 3 _ rfl⟩ ?_
              clear hK x0 y0 x1 y1 hwu1 hwu2 b4 b6 hS
              (try simp only [Act.put, List.setIfInBounds_toArray, List.set_cons_zero, List.set_cons_succ])
              refine wpAnyZ_all (rs := [3]) (by kernel_rfl) (by simp) (fun i hi => ?_)
              simp only [List.mem_cons, List.not_mem_nil, or_false] at hi
              subst hi
              have x0 := b3.cell 0 _ rfl
              have y0 := b3.frozen 0
              have b3 := b3.set_ 0 (.int .i64 (0))
              have b2 := b2.off (p := ⟨h0 + 1, 0, none⟩) (by show h0 ≠ h0 + 1; omega) (.int .i64 (0))
              have rs := rs.set_ 0 (.int .i64 (0)) (q := h0 + 1) (.inr (by omega))
              obtain ⟨wv0, hwv0⟩ : ∃ x, (wu2).setCell ⟨h0 + 1, 0, none⟩ (.int .i64 (0)) = x := ⟨_, rfl⟩
              rw [hwv0] at b2 b3 rs
              have x1 := b3.cell 1 _ rfl
              have y1 := b3.frozen 1
              have b3 := b3.set_ 1 (.int .i64 (0))
              have b2 := b2.off (p := ⟨h0 + 1, 1, none⟩) (by show h0 ≠ h0 + 1; omega) (.int .i64 (0))
              have rs := rs.set_ 1 (.int .i64 (0)) (q := h0 + 1) (.inr (by omega))
              obtain ⟨wv1, hwv1⟩ : ∃ x, (wv0).setCell ⟨h0 + 1, 1, none⟩ (.int .i64 (0)) = x := ⟨_, rfl⟩
              rw [hwv1] at b2 b3 rs
              have x2 := b3.cell 2 _ rfl
              have y2 := b3.frozen 2
              have b3 := b3.set_ 2 (.int .i64 (1))
              have b2 := b2.off (p := ⟨h0 + 1, 2, none⟩) (by show h0 ≠ h0 + 1; omega) (.int .i64 (1))
              have rs := rs.set_ 2 (.int .i64 (1)) (q := h0 + 1) (.inr (by omega))
              obtain ⟨wv2, hwv2⟩ : ∃ x, (wv1).setCell ⟨h0 + 1, 2, none⟩ (.int .i64 (1)) = x := ⟨_, rfl⟩
              rw [hwv2] at b2 b3 rs
              have x3 := b3.cell 3 _ rfl
              have y3 := b3.frozen 3
              have b3 := b3.set_ 3 (.slice E j ec)
              have b2 := b2.off (p := ⟨h0 + 1, 3, none⟩) (by show h0 ≠ h0 + 1; omega) (.slice E j ec)
              have rs := rs.set_ 3 (.slice E j ec) (q := h0 + 1) (.inr (by omega))
              obtain ⟨wv3, hwv3⟩ : ∃ x, (wv2).setCell ⟨h0 + 1, 3, none⟩ (.slice E j ec) = x := ⟨_, rfl⟩
              rw [hwv3] at b2 b3 rs
              refine stepZl (o := { dst := none, op := _, type := _, pos := _, after := _, guard := _ }) rfl (fun K hK => ?_)
              go_simp
              refine hK _ _ ?_
              clear hK x0 y0 x1 y1 x2 y2 x3 y3 hwv0 hwv1 hwv2 hwv3
              (try simp only [Act.put, List.setIfInBounds_toArray, List.set_cons_zero, List.set_cons_succ])
              refine wpAnyZ_done (by kernel_rfl) ?_ _
              have p0 : wv3.cell? ⟨h0, 0, none⟩ = some (.slice V j vc) := b2.cell 0 _ rfl
              have p1 : wv3.cell? ⟨h0, 1, none⟩ = some (.int .i64 L) := b2.cell 1 _ rfl
              have q0 : wv3.cell? ⟨h0 + 1, 0, none⟩ = some (.int .i64 (0)) := b3.cell 0 _ rfl
              have q1 : wv3.cell? ⟨h0 + 1, 1, none⟩ = some (.int .i64 (0)) := b3.cell 1 _ rfl
              have q2 : wv3.cell? ⟨h0 + 1, 2, none⟩ = some (.int .i64 (1)) := b3.cell 2 _ rfl
              have q3 : wv3.cell? ⟨h0 + 1, 3, none⟩ = some (.slice E j ec) := b3.cell 3 _ rfl
              go_wp2_with fail
              (try simp only [Exit.inBlock, Exit.then])
              refine bodyPost_ret (results_cell2 rfl _ _ h0 _ _ _ rfl b2 Tryd.underlying33 rfl (by kernel_rfl) (h0 + 1) _ _ _ rfl b3 Tryd.underlying36 rfl (by kernel_rfl)) rfl ?_
              exact SchemaP.mk HVN.out htl HL.out HXS.out hm ht0b HTS.out hej HES.out (by unfold Lay; omega) rs
end Go.Proofs.YtkdpjocglfephaaDoor
