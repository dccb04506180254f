/- Package log: what a log's deeds leave alone; a device that is all right. -/
import Derived.Test.YtfplppldojlanaaDoorLogE
import Derived.Test.YtfplppldojlanaaDoorDevF
namespace Go.Proofs.YtfplppldojlanaaDoor
open Go.RowKit
set_option linter.unusedVariables false

theorem own_keep {w w' : World} {base : Nat} {e : TypeId} {k : Nat} {v : Value} {n : Nat} {xs : List Value} (h : w.ownsRow base e k v n xs) (hk : ∀ (b : Nat) (cs : Array Value), w.heap[b]? = some (Obj.cells cs e (0, 0)) → w'.heap[b]? = w.heap[b]?) : w'.ownsRow base e k v n xs := by
  obtain ⟨h1, h2⟩ := h
  refine ⟨h1, ?_⟩
  rcases h2 with h2 | ⟨g, cap, cur, ha, hb, hg, hrest⟩
  · exact .inl h2
  · exact .inr ⟨g, cap, cur, ha, hb, (hk g cur hg).trans hg, hrest⟩
theorem DA.keep {w w' : World} {base p gs gn B cs cn cf : Nat} {A : Option Addr} {d : D} (h : DA w base p gs gn B cs cn A cf d)
    (hk : ∀ (b : Nat) (xs : Array Value) (t : TypeId), (t = 5 ∨ t = 24 ∨ t = 68 ∨ t = 54) → w.heap[b]? = some (Obj.cells xs t (0, 0)) → w'.heap[b]? = w.heap[b]?) : DA w' base p gs gn B cs cn A cf d := by
  obtain ⟨h1, ⟨s1, vs, s2, s3⟩, ⟨n1, ns, n2, n3⟩, ⟨f1, f0, fs, f2, f3⟩, h5, h6⟩ := h
  have hbv : ∀ {v l}, BV w v l → BV w' v l := fun hv => hv.keep fun b xs hb => hk b xs _ (.inl rfl) hb
  exact ⟨(hk _ _ _ (.inr (.inr (.inr rfl))) h1).trans h1,
    ⟨s1, vs, own_keep s2 fun b xs hb => hk b xs _ (.inr (.inl rfl)) hb, fun i hi => by obtain ⟨v, x, y⟩ := s3 i hi; exact ⟨v, x, hbv y⟩⟩,
    ⟨n1, ns, own_keep n2 fun b xs hb => hk b xs _ (.inr (.inl rfl)) hb, fun i hi => by obtain ⟨v, x, y⟩ := n3 i hi; exact ⟨v, x, hbv y⟩⟩,
    ⟨f1, f0, fs, own_keep f2 fun b xs hb => hk b xs _ (.inr (.inr (.inl rfl))) hb, fun i hi => by obtain ⟨x, v, y, z⟩ := f3 i hi; exact ⟨x, v, y, hbv z⟩⟩, h5, h6⟩
/-- What a log's deeds leave: all but the device's own, and the log's block. -/
def KL (gs gn q : Nat) (w w' : World) : Prop := w'.os = w.os ∧ w'.tape = w.tape ∧ w'.output = w.output ∧ w.heap.size ≤ w'.heap.size ∧ (∀ {z : Nat × Nat} (b : Nat) (cs : Array Value) (ty : TypeId), b ≠ q → ty ≠ 24 → ty ≠ 68 → ty ≠ 54 → w.heap[b]? = some (Obj.cells cs ty z) → w'.heap[b]? = w.heap[b]?) ∧ ∀ (b : Nat) (cs : Array Value), b ≠ q → b ≠ gs → b ≠ gn → w.heap[b]? = some (Obj.cells cs 24 (0, 0)) → w'.heap[b]? = w.heap[b]?
theorem KG.kl {gs gn q : Nat} {w w' : World} (h : KG gs gn w w') : KL gs gn q w w' := ⟨h.1, h.2.1, h.2.2.1, h.2.2.2.1, fun b cs ty _ => h.2.2.2.2.1 b cs ty, fun b cs _ => h.2.2.2.2.2 b cs⟩
theorem KL.refl {gs gn q : Nat} (w : World) : KL gs gn q w w := (KG.refl w).kl
theorem KL.later {gs gn q : Nat} {w w' : World} (h : Later w w') : KL gs gn q w w' := (KG.later h).kl
theorem KL.trans {gs gn q : Nat} {a b c : World} (h : KL gs gn q a b) (k : KL gs gn q b c) : KL gs gn q a c :=
  ⟨k.1.trans h.1, k.2.1.trans h.2.1, k.2.2.1.trans h.2.2.1, Nat.le_trans h.2.2.2.1 k.2.2.2.1,
    fun x cs t h0 h1 h2 h3 hx => (k.2.2.2.2.1 x cs t h0 h1 h2 h3 ((h.2.2.2.2.1 x cs t h0 h1 h2 h3 hx).trans hx)).trans (h.2.2.2.2.1 x cs t h0 h1 h2 h3 hx),
    fun x cs h0 h1 h2 hx => (k.2.2.2.2.2 x cs h0 h1 h2 ((h.2.2.2.2.2 x cs h0 h1 h2 hx).trans hx)).trans (h.2.2.2.2.2 x cs h0 h1 h2 hx)⟩
theorem KL.set {gs gn q : Nat} (w : World) (k : Nat) (v : Value) : KL gs gn q w (w.setCell ⟨q, k, none⟩ v) := by
  have hg : w.grownBy (w.setCell ⟨q, k, none⟩ v) (some q) := only_setCell (World.grownBy.refl _ _) (.inl rfl) v
  have hb : ∀ b, b ≠ q → b < w.heap.size → (w.setCell ⟨q, k, none⟩ v).heap[b]? = w.heap[b]? := fun b h1 h2 => hg.block b h2 (fun e => h1 (by injection e))
  exact ⟨hg.os, hg.tape, hg.output, hg.size, fun b cs ty h0 _ _ _ hx => hb b h0 (Array.getElem?_eq_some_iff.1 hx).1, fun b cs h0 _ _ hx => hb b h0 (Array.getElem?_eq_some_iff.1 hx).1⟩
theorem KG.blk {gs gn : Nat} {w w' : World} (h : KG gs gn w w') {g : Nat} {cs : Array Value} {t : TypeId} (b : Blk w g cs t) (h1 : t ≠ 24) (h2 : t ≠ 68) (h3 : t ≠ 54) : Blk w' g cs t := (h.2.2.2.2.1 g cs t h1 h2 h3 b).trans b
theorem RB.kl {w w' : World} {base gs gn q : Nat} {A : Option Addr} {l : List Nat} {xs : Array Value} (h : RB w base A l) (k : KL gs gn q w w') (hq : Blk w q xs 61) : RB w' base A l := by
  obtain ⟨b, o, cs, h1, h2, h3, h4⟩ := h
  refine ⟨b, o, cs, h1, h2, (k.2.2.2.2.1 b cs _ (fun e => ?_) (by decide) (by decide) (by decide) h3).trans h3, h4⟩
  subst e
  exact typed_no hq h3 (by decide)
theorem DA.set {w : World} {base p gs gn B cs cn cf q : Nat} {A : Option Addr} {d : D} {xs : Array Value} (h : DA w base p gs gn B cs cn A cf d) (hq : Blk w q xs 61) (k : Nat) (v : Value) : DA (w.setCell ⟨q, k, none⟩ v) base p gs gn B cs cn A cf d :=
  h.keep fun b ys t ht hb => Below.heap_setCell w ⟨q, k, none⟩ v b (fun e => by
    have e : b = q := e
    subst e
    rcases ht with rfl | rfl | rfl | rfl <;> exact typed_no hq hb (by decide))
/-- A device that runs: so many writes are on their way, so many are done. -/
structure DOk (B f n : Nat) (d : D) : Prop where
  stops : d.stops = false
  fly : d.fly.length ≤ f
  at_ : ∀ x ∈ d.fly, x.1 < B
  lo : 0 ≤ d.writes
  hi : d.writes ≤ (n : Int)
theorem DOk.run {B f n : Nat} {d : D} (h : DOk B f n d) : d.stopped = false := by unfold D.stopped; rw [h.stops]; rfl
theorem DOk.wr {B f n : Nat} {d : D} (h : DOk B f n d) {i : Nat} (hi : i < B) (b : List Nat) : DOk B (f + 1) (n + 1) (d.wr i b) :=
  ⟨h.stops, by have := h.fly; show (d.fly ++ [(i, b)]).length ≤ f + 1; rw [List.length_append]; simpa using this, fun x hx => by
    rcases List.mem_append.1 hx with hx | hx
    · exact h.at_ x hx
    · rw [List.mem_singleton] at hx; subst hx; exact hi, by have := h.lo; show 0 ≤ d.writes + 1; omega, by have := h.hi; show d.writes + 1 ≤ ((n + 1 : Nat) : Int); push_cast; omega⟩
theorem DOk.fl {B f n : Nat} {d : D} (h : DOk B f n d) : DOk B 0 n d.fl := ⟨h.stops, Nat.le_refl _, (fun x hx => by cases hx), h.lo, h.hi⟩
theorem DOk.more {B f n f' n' : Nat} {d : D} (h : DOk B f n d) (hf : f ≤ f') (hn : n ≤ n') : DOk B f' n' d := ⟨h.stops, Nat.le_trans h.fly hf, h.at_, h.lo, by have := h.hi; omega⟩
theorem DOk.new (B : Nat) : DOk B 0 0 (newD B) := ⟨rfl, Nat.le_refl _, (fun x hx => by cases hx), Int.le_refl _, Int.le_refl _⟩
end Go.Proofs.YtfplppldojlanaaDoor
