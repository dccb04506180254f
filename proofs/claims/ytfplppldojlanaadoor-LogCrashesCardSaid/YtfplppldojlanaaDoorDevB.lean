/- Package dev: what changes of a device; Write. -/
import Derived.Test.YtfplppldojlanaaDoorDevA
import Derived.Deep.RegionLaw
namespace Go.Proofs.YtfplppldojlanaaDoor
open Go.RowKit
set_option linter.unusedVariables false

theorem devblk_v {w : World} {base : Nat} {e : TypeId} {k n : Nat} {v : Value} {xs : List Value} (h : w.ownsRow base e k v n xs) : ∀ x, v.ownBlock = some x → ∃ cs, w.heap[x]? = some (Obj.cells cs e (0, 0)) := by
  intro x hx
  rcases h.2 with ⟨rfl, _⟩ | ⟨g2, cap, cur, rfl, hb', hg', hrest⟩
  · cases hx
  · injection hx with hx
    subst hx
    exact ⟨_, hg'⟩
theorem devown_blk {w : World} {base : Nat} {e : TypeId} {k n g c : Nat} {xs : List Value} (h : w.ownsRow base e k (.slice (some ⟨g, 0, none⟩) n c) n xs) : ∃ cs, w.heap[g]? = some (Obj.cells cs e (0, 0)) := devblk_v h g rfl
/-- A row of the call's own stays if its block does. -/
theorem devown_row {w w' : World} {base : Nat} {e : TypeId} {k n : Nat} {v : Value} {xs : List Value} {row : Option Nat} (h : w.ownsRow base e k v n xs) (hg : w.grownBy w' row) (hne : ∀ x, v.ownBlock = some x → some x ≠ row) : w'.ownsRow base e k v n xs := by
  obtain ⟨h1, h2⟩ := h
  refine ⟨h1, ?_⟩
  rcases h2 with h2 | ⟨g2, cap, cur, ha, hb', hg', hrest⟩
  · exact .inl h2
  · exact .inr ⟨g2, cap, cur, ha, hb', (hg.block g2 (Array.getElem?_eq_some_iff.1 hg').1 (hne g2 (by rw [ha]; rfl))).trans hg', hrest⟩
theorem BV.grown {w w' : World} {v : Value} {l : List Nat} {row : Option Nat} (h : BV w v l) (hg : w.grownBy w' row) (hr : ∀ x, row = some x → ∃ (cs : Array Value) (t : TypeId), w.heap[x]? = some (Obj.cells cs t (0, 0)) ∧ t ≠ 5) : BV w' v l :=
  h.keep fun b cs hb => hg.block b (Array.getElem?_eq_some_iff.1 hb).1 (by
    intro e
    obtain ⟨cs', t, h1, h2⟩ := hr b e.symm
    exact typed_ne h1 hb h2 rfl)
theorem SR.grown {w w' : World} {base g n c : Nat} {L : List (List Nat)} {row : Option Nat} (h : SR w base g n c L) (hg : w.grownBy w' row) (hr : ∀ x, row = some x → ∃ (cs : Array Value) (t : TypeId), w.heap[x]? = some (Obj.cells cs t (0, 0)) ∧ t ≠ 5) (hne : some g ≠ row) : SR w' base g n c L := by
  obtain ⟨h1, vs, h2, h3⟩ := h
  exact ⟨h1, vs, devown_row h2 hg (fun x hx => by injection hx with hx; rw [← hx]; exact hne), fun i hi => by obtain ⟨v, h4, h5⟩ := h3 i hi; exact ⟨v, h4, h5.grown hg hr⟩⟩
theorem FL.grown {w w' : World} {base n c : Nat} {A : Option Addr} {F : List (Nat × List Nat)} {row : Option Nat} (h : FL w base A n c F) (hg : w.grownBy w' row) (hr : ∀ x, row = some x → ∃ (cs : Array Value) (t : TypeId), w.heap[x]? = some (Obj.cells cs t (0, 0)) ∧ t ≠ 5 ∧ t ≠ 68) : FL w' base A n c F := by
  obtain ⟨h1, h0, vs, h2, h3⟩ := h
  refine ⟨h1, h0, vs, devown_row h2 hg (fun x hx e => ?_), fun i hi => ?_⟩
  · obtain ⟨cs, t, h4, _, h5⟩ := hr x e.symm
    obtain ⟨cs', h6⟩ := devblk_v h2 x hx
    exact typed_ne h4 h6 h5 rfl
  · obtain ⟨h6, v, h4, h5⟩ := h3 i hi
    exact ⟨h6, v, h4, h5.grown hg (fun x hx => by obtain ⟨cs, t, h7, h8, _⟩ := hr x hx; exact ⟨cs, t, h7, h8⟩)⟩
/-- A device in memory, its own cells apart. -/
def DR (w : World) (base p gs gn B cs cn : Nat) (A : Option Addr) (nf cf : Nat) (sure now : List (List Nat)) (fly : List (Nat × List Nat)) (x : Array Value) : Prop :=
  Blk w p x 54 ∧ SR w base gs B cs sure ∧ SR w base gn B cn now ∧ FL w base A nf cf fly ∧ gs ≠ gn ∧ base ≤ p
section
variable {w w' : World} {base p gs gn B cs cn nf cf : Nat} {A : Option Addr} {sure now : List (List Nat)} {fly : List (Nat × List Nat)} {x : Array Value}
theorem DR.gb (h : DR w base p gs gn B cs cn A nf cf sure now fly x) : base ≤ gs ∧ base ≤ gn ∧ gs < w.heap.size ∧ gn < w.heap.size ∧ (∃ c, w.heap[gs]? = some (Obj.cells c 24 (0, 0))) ∧ (∃ c, w.heap[gn]? = some (Obj.cells c 24 (0, 0))) := by
  obtain ⟨_, ⟨_, vs, h2, _⟩, ⟨_, vn, h3, _⟩, _⟩ := h
  exact ⟨(h2.lt gs rfl).1, (h3.lt gn rfl).1, (h2.lt gs rfl).2, (h3.lt gn rfl).2, devown_blk h2, devown_blk h3⟩
theorem DR.later (h : DR w base p gs gn B cs cn A nf cf sure now fly x) (k : Later w w') : DR w' base p gs gn B cs cn A nf cf sure now fly x :=
  ⟨h.1.later k, h.2.1.later k, h.2.2.1.later k, h.2.2.2.1.later k, h.2.2.2.2⟩
/-- A cell of the device itself is stored. -/
theorem DR.setp (h : DR w base p gs gn B cs cn A nf cf sure now fly x) (k : Nat) (v : Value) : DR (w.setCell ⟨p, k, none⟩ v) base p gs gn B cs cn A nf cf sure now fly (x.setIfInBounds k v) := by
  have hg : w.grownBy (w.setCell ⟨p, k, none⟩ v) (some p) := only_setCell (World.grownBy.refl _ _) (.inl rfl) v
  have hr : ∀ y, some p = some y → ∃ (cs : Array Value) (t : TypeId), w.heap[y]? = some (Obj.cells cs t (0, 0)) ∧ t ≠ 5 := fun y hy => by injection hy with hy; subst hy; exact ⟨_, _, h.1, by decide⟩
  obtain ⟨_, _, _, _, ⟨c1, k1⟩, ⟨c2, k2⟩⟩ := h.gb
  exact ⟨h.1.set_ k v, h.2.1.grown hg hr (by intro e; injection e with e; exact typed_ne k1 h.1 (by decide) e), h.2.2.1.grown hg hr (by intro e; injection e with e; exact typed_ne k2 h.1 (by decide) e), h.2.2.2.1.grown hg (fun y hy => by injection hy with hy; subst hy; exact ⟨_, _, h.1, by decide, by decide⟩), h.2.2.2.2⟩
theorem SR.put {g n c : Nat} {L : List (List Nat)} (h : SR w base g n c L) (i : Nat) (v : Value) (l : List Nat) (hv : BV w v l) : SR (w.setCell ⟨g, i, none⟩ v) base g n c (L.set i l) := by
  obtain ⟨h1, vs, h2, h3⟩ := h
  obtain ⟨c', hc'⟩ := devown_blk h2
  have hg : w.grownBy (w.setCell ⟨g, i, none⟩ v) (some g) := only_setCell (World.grownBy.refl _ _) (.inl rfl) v
  have hr : ∀ y, some g = some y → ∃ (cs : Array Value) (t : TypeId), w.heap[y]? = some (Obj.cells cs t (0, 0)) ∧ t ≠ 5 := fun y hy => by injection hy with hy; subst hy; exact ⟨_, _, hc', by decide⟩
  refine ⟨by rw [List.length_set]; exact h1, vs.set i v, (h2.stored i v).1, fun j hj => ?_⟩
  rw [List.length_set] at hj
  by_cases hij : i = j
  · subst hij
    obtain ⟨u, h4, _⟩ := h3 i hj
    refine ⟨v, by rw [List.getElem?_set_self (List.getElem?_eq_some_iff.1 h4).1], ?_⟩
    rw [List.getElem_set_self]; exact hv.grown hg hr
  · obtain ⟨u, h4, h5⟩ := h3 j hj
    refine ⟨u, by rw [List.getElem?_set_ne hij]; exact h4, ?_⟩
    rw [List.getElem_set_ne hij]; exact h5.grown hg hr
/-- A block of those of now is laid. -/
theorem DR.putn (h : DR w base p gs gn B cs cn A nf cf sure now fly x) (i : Nat) (v : Value) (l : List Nat) (hv : BV w v l) : DR (w.setCell ⟨gn, i, none⟩ v) base p gs gn B cs cn A nf cf sure (now.set i l) fly x := by
  have hg : w.grownBy (w.setCell ⟨gn, i, none⟩ v) (some gn) := only_setCell (World.grownBy.refl _ _) (.inl rfl) v
  obtain ⟨_, _, _, _, _, ⟨c2, k2⟩⟩ := h.gb
  have hr : ∀ y, some gn = some y → ∃ (cs : Array Value) (t : TypeId), w.heap[y]? = some (Obj.cells cs t (0, 0)) ∧ t ≠ 5 := fun y hy => by injection hy with hy; subst hy; exact ⟨_, _, k2, by decide⟩
  exact ⟨h.1.far (typed_ne h.1 k2 (by decide)) v, h.2.1.grown hg hr (by intro e; injection e with e; exact h.2.2.2.2.1 e), h.2.2.1.put i v l hv, h.2.2.2.1.grown hg (fun y hy => by injection hy with hy; subst hy; exact ⟨_, _, k2, by decide, by decide⟩), h.2.2.2.2⟩
/-- A block of the sure ones is laid. -/
theorem DR.puts (h : DR w base p gs gn B cs cn A nf cf sure now fly x) (i : Nat) (v : Value) (l : List Nat) (hv : BV w v l) : DR (w.setCell ⟨gs, i, none⟩ v) base p gs gn B cs cn A nf cf (sure.set i l) now fly x := by
  have hg : w.grownBy (w.setCell ⟨gs, i, none⟩ v) (some gs) := only_setCell (World.grownBy.refl _ _) (.inl rfl) v
  obtain ⟨_, _, _, _, ⟨c2, k2⟩, _⟩ := h.gb
  have hr : ∀ y, some gs = some y → ∃ (cs : Array Value) (t : TypeId), w.heap[y]? = some (Obj.cells cs t (0, 0)) ∧ t ≠ 5 := fun y hy => by injection hy with hy; subst hy; exact ⟨_, _, k2, by decide⟩
  exact ⟨h.1.far (typed_ne h.1 k2 (by decide)) v, h.2.1.put i v l hv, h.2.2.1.grown hg hr (by intro e; injection e with e; exact h.2.2.2.2.1 e.symm), h.2.2.2.1.grown hg (fun y hy => by injection hy with hy; subst hy; exact ⟨_, _, k2, by decide, by decide⟩), h.2.2.2.2⟩
/-- A write more between. -/
theorem DR.fly1 {A' : Option Addr} {c' : Nat} {v : Value} {l : List Nat} {i : Nat} {vs : List Value} (h : DR w base p gs gn B cs cn A nf cf sure now fly x) (hvs : w.ownsRow base 68 2 (.slice A nf cf) nf vs) (hg : w.grownBy w' (Value.slice A nf cf).ownBlock) (hv : BV w v l) (ho : w'.ownsRow base 68 2 (.slice A' (nf + 1) c') (nf + 1) (vs ++ [.int .i64 (i : Int), v])) (hn : A' = none → c' = 0)
    (hvv : ∀ j, (hj : j < fly.length) → vs[j * 2]? = some (.int .i64 (fly[j].1 : Int)) ∧ ∃ v, vs[j * 2 + 1]? = some v ∧ BV w v fly[j].2) : DR w' base p gs gn B cs cn A' (nf + 1) c' sure now (fly ++ [(i, l)]) x := by
  have hb := devblk_v hvs
  have hr : ∀ y, (Value.slice A nf cf).ownBlock = some y → ∃ (cs : Array Value) (t : TypeId), w.heap[y]? = some (Obj.cells cs t (0, 0)) ∧ t ≠ 5 := fun y hy => by obtain ⟨c, hc⟩ := hb y hy; exact ⟨_, _, hc, by decide⟩
  have hne : ∀ {g : Nat} {c : Array Value} {t : TypeId}, w.heap[g]? = some (Obj.cells c t (0, 0)) → t ≠ 68 → some g ≠ (Value.slice A nf cf).ownBlock := fun hc ht e => by obtain ⟨c2, hc2⟩ := hb _ e.symm; exact typed_ne hc hc2 ht rfl
  obtain ⟨_, _, _, _, ⟨c1, k1⟩, ⟨c2, k2⟩⟩ := h.gb
  have hfl := h.2.2.2.1.1
  have hvl : vs.length = nf * 2 := hvs.1
  refine ⟨(hg.block p h.1.lt (hne h.1 (by decide))).trans h.1, h.2.1.grown hg hr (hne k1 (by decide)), h.2.2.1.grown hg hr (hne k2 (by decide)), ⟨by rw [List.length_append, hfl]; rfl, hn, _, ho, fun j hj => ?_⟩, h.2.2.2.2⟩
  rw [List.length_append] at hj
  simp at hj
  by_cases hjl : j < fly.length
  · obtain ⟨h6, u, h7, h8⟩ := hvv j hjl
    rw [List.getElem_append_left hjl, List.getElem?_append_left (by omega), List.getElem?_append_left (by omega)]
    exact ⟨h6, u, h7, h8.grown hg hr⟩
  · obtain rfl : j = fly.length := by omega
    rw [List.getElem_append_right (Nat.le_refl _), List.getElem?_append_right (by omega), List.getElem?_append_right (by omega)]
    rw [show fly.length * 2 - vs.length = 0 by omega, show fly.length * 2 + 1 - vs.length = 1 by omega]
    simp
    exact hv.grown hg hr
end
theorem KD.only {w w' : World} {row : Option Nat} (hg : w.grownBy w' row) (hr : ∀ x, row = some x → ∃ (cs : Array Value) (t : TypeId), w.heap[x]? = some (Obj.cells cs t (0, 0)) ∧ (t = 24 ∨ t = 68 ∨ t = 54)) : KD w w' :=
  ⟨hg.os, hg.tape, hg.output, hg.size, fun b cs t h1 h2 h3 hb => hg.block b (Array.getElem?_eq_some_iff.1 hb).1 (by
    intro e
    obtain ⟨cs', t', h4, h5⟩ := hr b e.symm
    refine typed_ne h4 hb ?_ rfl
    rcases h5 with h5 | h5 | h5 <;> rw [h5] <;> intro e2 <;> first | exact h1 e2.symm | exact h2 e2.symm | exact h3 e2.symm)⟩

theorem step_append_gg {P : Program} {w : World} {ops : Array Oper} {o : Oper} {a : Act} {K : Act → World → Prop} {Q : Exit → Act → World → Prop} {E : Prop} (hgd : o.guard = none) (s x : Operand) (t : TypeId)
    (ho : o.op = .call { callee := .builtin .append, args := #[s, x], argTypes := #[t, t] })
    (base : Nat) (e : TypeId) (z : Value) (size bytes : Nat) (ht : P.underlying t = some (.slice e)) (hinfo : (P.info? e).map (fun i => (i.zero, i.size, i.bytes)) = some (some z, size, bytes)) (hzs : z.cells.size = size) (hsz0 : 0 < size)
    (v : Value) (n : Nat) (xs : List Value) (hs : a.eval s = v) (hown : w.ownsRow base e size v n xs)
    (b off m c : Nat) (news : List Value) (hx : a.eval x = .slice (some ⟨b, off, none⟩) m c) (hr : Has w (some ⟨b, off, none⟩) news) (hm : news.length = m * size) (h1 : ∀ u ∈ news, u.oneCell' = true)
    (h63 : n + m ≤ maxLen) (hbytes : (n + m) * bytes ≤ 140737488355328) (hbase : base ≤ w.heap.size)
    (h : ∀ A' c' w', w'.ownsRow base e size (.slice A' (n + m) c') (n + m) (xs ++ news) → w.grownBy w' v.ownBlock → Below base w w' → (A' = none → c' = 0) → K (a.put o.dst (.slice A' (n + m) c')) w') :
    if Region.wanted o (yielded ops a.tmps) = true then Oper.wp P o a w K Q else E := by
  have hw : Region.wanted o (yielded ops a.tmps) = true := by simp [Region.wanted, hgd]
  rw [if_pos hw]
  obtain ⟨i, hi, hz, hsz, hby⟩ := info_parts hinfo
  have hcells : ∀ j u, news[j]? = some u → w.cell? ((⟨b, off, none⟩ : Addr).add j) = some u := by
    intro j u hu
    rcases hr with h | ⟨b', off', h, _, hc⟩
    · subst h; simp at hu
    · injection h with h
      injection h with h2 h3
      subst h2 h3
      rw [add_plain]
      exact hc j u hu
  obtain ⟨v', w', hrun, h2, h3, _⟩ := run_append_own (P := P) w base t o.type e i z size bytes ht hi hz hsz hby hzs hsz0 v n xs hown ⟨b, off, none⟩ m c news hm hcells h1 h63 hbytes hbase
  obtain ⟨A', c', hv, hc'⟩ := ownG_shape h2
  subst hv
  unfold Oper.wp execOp
  simp only [ho, resolve, invoke, builtin, Sem.run_bind, Sem.run_pure, Result.andThen_ok, List.map_toArray, List.map_cons, List.map_nil, hs, hx, hrun]
  exact h A' c' w' h2 h3 ((Below.refl _ _).grown h3 hbase fun k hk => (hown.lt k hk).1) hc'
end Go.Proofs.YtfplppldojlanaaDoor
