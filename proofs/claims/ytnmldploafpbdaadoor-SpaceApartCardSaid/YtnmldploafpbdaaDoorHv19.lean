/- A list of extents that grows behind and is taken from ahead; its cover; the owners. -/
import Derived.Test.YtnmldploafpbdaaDoorDeeds19
import Derived.Test.YtnmldploafpbdaaDoorSpaceFirst
import Derived.ArgAppend
namespace Go.Proofs.YtnmldploafpbdaaDoor
open Go.RowKit
set_option linter.unusedVariables false

theorem type_ne' {w : World} {g x : Nat} {cs cs' : Array Value} {t e : TypeId} (hb : w.heap[g]? = some (.cells cs t (0, 0))) (hr : w.heap[x]? = some (.cells cs' e (0, 0))) (hne : t ≠ e) : g ≠ x := by
  intro h
  subst h
  rw [hb] at hr
  injection hr with hr
  injection hr with _ hr _
  exact hne hr
/-- A slice of extents, in a block of the call's own. -/
def HV (w : World) (base : Nat) (A : Option Addr) (n c : Nat) (l : List (Int × Int)) : Prop :=
  l.length = n ∧ ((c = 0 ∧ n = 0) ∨ ∃ b off cs, A = some ⟨b, off, none⟩ ∧ base ≤ b ∧ w.heap[b]? = some (.cells cs 30 (0, 0)) ∧ off + c * 2 ≤ cs.size ∧ (∀ j u, (fl2 l)[j]? = some u → cs[off + j]? = some u) ∧ n ≤ c ∧ c ≤ maxLen)
theorem HV.nil_ (w : World) (base : Nat) (A : Option Addr) : HV w base A 0 0 [] := ⟨rfl, .inl ⟨rfl, rfl⟩⟩
/-- It stays through what changes no block of extents that was there. -/
theorem HV.keep {w w' : World} {base : Nat} {A : Option Addr} {n c : Nat} {l : List (Int × Int)} (h : HV w base A n c l) (hk : ∀ (b : Nat) (cs : Array Value), w.heap[b]? = some (Obj.cells cs 30 (0, 0)) → w'.heap[b]? = w.heap[b]?) : HV w' base A n c l := by
  obtain ⟨h1, h2⟩ := h
  refine ⟨h1, ?_⟩
  rcases h2 with h2 | ⟨b, off, cs, ha, hb, hc, hrest⟩
  · exact .inl h2
  · exact .inr ⟨b, off, cs, ha, hb, (hk b cs hc).trans hc, hrest⟩
theorem HV.later {w w' : World} {base : Nat} {A : Option Addr} {n c : Nat} {l : List (Int × Int)} (h : HV w base A n c l) (k : Later w w') : HV w' base A n c l :=
  h.keep fun b cs hc => Below.block k b (Array.getElem?_eq_some_iff.1 hc).1
theorem HV.grown {w w' : World} {base : Nat} {A : Option Addr} {n c x : Nat} {l : List (Int × Int)} {t : TypeId} {cs' : Array Value} (h : HV w base A n c l) (k : w.grownBy w' (some x)) (hx : w.heap[x]? = some (.cells cs' t (0, 0))) (ht : t ≠ 30) : HV w' base A n c l :=
  h.keep fun b cs hc => k.block b (Array.getElem?_eq_some_iff.1 hc).1 (by intro e; injection e with e; exact type_ne' hx hc ht e.symm)
theorem HV.head {w : World} {base : Nat} {A : Option Addr} {n c : Nat} {x : Int × Int} {l : List (Int × Int)} (h : HV w base A n c (x :: l)) : ∃ b off, A = some ⟨b, off, none⟩ ∧ b < w.heap.size ∧ w.cell? ⟨b, off, none⟩ = some (.int .i64 x.1) ∧ w.cell? ⟨b, off + 1, none⟩ = some (.int .i64 x.2) ∧ 1 ≤ c ∧ c ≤ maxLen ∧
    HV w base (some ⟨b, off + 2, none⟩) (n - 1) (c - 1) l ∧ (c = 1 → n = 1) := by
  obtain ⟨h1, h2⟩ := h
  rw [List.length_cons] at h1
  rcases h2 with ⟨_, h2⟩ | ⟨b, off, cs, rfl, hb, hc, hsz, hcs, hnc, hcm⟩
  · omega
  · have e0 := hcs 0 (.int .i64 x.1) rfl
    have e1 := hcs 1 (.int .i64 x.2) rfl
    refine ⟨b, off, rfl, (Array.getElem?_eq_some_iff.1 hc).1, ?_, ?_, by omega, hcm, ⟨by omega, .inr ⟨b, off + 2, cs, rfl, hb, hc, by omega, fun j u hj => ?_, by omega, by omega⟩⟩, by omega⟩
    · rw [cell_of_row w b off cs _ (0, 0) hc]; simpa using e0
    · rw [cell_of_row w b (off + 1) cs _ (0, 0) hc]; exact e1
    · have : (fl2 (x :: l))[j + 2]? = some u := hj
      have := hcs (j + 2) u this
      rw [← this]; congr 1; omega
theorem HV.get {w : World} {base : Nat} {A : Option Addr} {n c : Nat} {l : List (Int × Int)} (h : HV w base A n c l) (i : Nat) (hi : i < l.length) : ∃ b off, A = some ⟨b, off, none⟩ ∧ w.cell? ⟨b, off + i * 2, none⟩ = some (.int .i64 l[i].1) ∧ w.cell? ⟨b, off + i * 2 + 1, none⟩ = some (.int .i64 l[i].2) := by
  obtain ⟨h1, h2⟩ := h
  rcases h2 with ⟨_, h2⟩ | ⟨b, off, cs, rfl, hb, hc, hsz, hcs, hnc, hcm⟩
  · omega
  · obtain ⟨g0, g1⟩ := fl2_get l i hi
    refine ⟨b, off, rfl, ?_, ?_⟩
    · rw [cell_of_row w b _ cs _ (0, 0) hc]; exact hcs _ _ g0
    · rw [cell_of_row w b _ cs _ (0, 0) hc, Nat.add_assoc]; exact hcs _ _ g1
/-- What an append leaves of the blocks that are no extents. -/
def Keeps (w w' : World) : Prop := w'.os = w.os ∧ w'.tape = w.tape ∧ w'.output = w.output ∧ w.heap.size ≤ w'.heap.size ∧ ∀ (b : Nat) (cs : Array Value) (t : TypeId), t ≠ 30 → w.heap[b]? = some (Obj.cells cs t (0, 0)) → w'.heap[b]? = w.heap[b]?
theorem HV.write {w : World} {base b off n c : Nat} {l : List (Int × Int)} (h : HV w base (some ⟨b, off, none⟩) n c l) (hr : n + 1 ≤ c) (x y : Int) :
    HV (w.setCells b (off + n * 2) [.int .i64 x, .int .i64 y]) base (some ⟨b, off, none⟩) (n + 1) c (l ++ [(x, y)]) ∧ (∀ j, j < 2 → (w.cell? ⟨b, off + n * 2 + j, none⟩).isSome = true ∧ w.frozen? ⟨b, off + n * 2 + j, none⟩ = false) ∧ Keeps w (w.setCells b (off + n * 2) [.int .i64 x, .int .i64 y]) ∧ base ≤ b := by
  obtain ⟨h1, h2⟩ := h
  rcases h2 with ⟨_, h2⟩ | ⟨b', off', cs, ha, hb, hc, hsz, hcs, hnc, hcm⟩
  · omega
  injection ha with ha
  injection ha with ha1 ha2
  subst ha1 ha2
  have B : Blk w b cs 30 := hc
  have B2 := (B.set_ (off + n * 2) (.int .i64 x)).set_ (off + n * 2 + 1) (.int .i64 y)
  have hll : (fl2 l).length = n * 2 := by rw [fl2_length, h1]
  refine ⟨⟨by rw [List.length_append, h1]; rfl, .inr ⟨b, off, _, rfl, hb, B2, by simpa using hsz, fun j u hj => ?_, hr, hcm⟩⟩, fun j hj => ⟨?_, B.frozen _⟩, ⟨rfl, rfl, rfl, by simp [World.setCells], fun b' cs' t ht hb' => ?_⟩, hb⟩
  · rw [fl2_snoc, List.getElem?_append, hll] at hj
    split at hj
    · rename_i hlt
      rw [Array.getElem?_setIfInBounds_ne (by omega), Array.getElem?_setIfInBounds_ne (by omega)]
      exact hcs j u hj
    · rename_i hge
      have hj2 : j = n * 2 ∨ j = n * 2 + 1 := by
        have := (List.getElem?_eq_some_iff.1 hj).1
        simp at this
        omega
      rcases hj2 with rfl | rfl
      · rw [Nat.sub_self] at hj
        rw [Array.getElem?_setIfInBounds_ne (by omega), Array.getElem?_setIfInBounds_self_of_lt (by omega)]
        exact hj
      · rw [show n * 2 + 1 - n * 2 = 1 by omega] at hj
        rw [← Nat.add_assoc, Array.getElem?_setIfInBounds_self_of_lt (by simp; omega)]
        exact hj
  · rw [cell_of_row w b _ cs _ (0, 0) hc, Array.getElem?_eq_getElem (by omega)]; rfl
  · have hne : b' ≠ b := type_ne' hb' hc ht
    show ((w.setCell ⟨b, off + n * 2, none⟩ _).setCell ⟨b, off + n * 2 + 1, none⟩ _).heap[b']? = _
    rw [Below.heap_setCell _ ⟨b, off + n * 2 + 1, none⟩ _ b' hne, Below.heap_setCell _ ⟨b, off + n * 2, none⟩ _ b' hne]
theorem HV.fresh {w w' : World} {base : Nat} {l : List (Int × Int)} {n : Nat} {v : Value} {x y : Int} (hl : l.length = n) (ho : w'.ownsRow w.heap.size 30 2 v (n + 1) (fl2 l ++ [.int .i64 x, .int .i64 y])) (hb : base ≤ w.heap.size) : ∃ A c, v = .slice A (n + 1) c ∧ HV w' base A (n + 1) c (l ++ [(x, y)]) := by
  rcases ho.2 with ⟨_, h2⟩ | ⟨g, cap, cur, rfl, hb', hg', h1, h2, h3, h4⟩
  · omega
  · refine ⟨_, _, rfl, by rw [List.length_append, hl]; rfl, .inr ⟨g, 0, cur, rfl, by omega, hg', by omega, fun j u hj => ?_, h1, h2⟩⟩
    have hj2 : (fl2 l ++ [.int .i64 x, .int .i64 y])[j]? = some u := by rw [← fl2_snoc l (x, y)]; exact hj
    have hjl := (List.getElem?_eq_some_iff.1 hj2).1
    rw [List.length_append, fl2_length, hl] at hjl
    simp at hjl
    rw [Nat.zero_add, ← hj2, ← h4, List.getElem?_take, if_pos (by omega), Array.getElem?_toList]
theorem Keeps.of_none {w w' : World} (h : w.grownBy w' none) : Keeps w w' := ⟨h.os, h.tape, h.output, h.size, fun b cs t _ hb => h.block b (Array.getElem?_eq_some_iff.1 hb).1 (fun e => by cases e)⟩

theorem wpList_append_hv {P : Program} (w : World) {ops : Array Oper} {rest : List Oper} {o : Oper} {a : Act} {Q : Exit → Act → World → Prop} (hgd : o.guard = none) (s x : Operand) (t : TypeId)
    (hop : o.op = .call { callee := .builtin .append, args := #[s, x], argTypes := #[t, t] }) (ht : P.underlying t = some (.slice 30)) (hinfo : (P.info? 30).map (fun i => (i.zero, i.size, i.bytes)) = some (some (.agg #[.int .i64 0, .int .i64 0]), 2, 16))
    (base : Nat) (A : Option Addr) (n c : Nat) (l : List (Int × Int)) (hs : a.eval s = .slice A n c) (hv : HV w base A n c l) (hA : A = none → n = 0 ∧ c = 0) (g cc : Nat) (y z : Int) (hx : a.eval x = .slice (some ⟨g, 0, none⟩) 1 cc) (hc0 : w.cell? ⟨g, 0, none⟩ = some (.int .i64 y)) (hc1 : w.cell? ⟨g, 1, none⟩ = some (.int .i64 z)) (hn : n ≤ 100000) (hbase : base ≤ w.heap.size)
    (h : ∀ A' c' w', HV w' base A' (n + 1) c' (l ++ [(y, z)]) → (A' = none → n + 1 = 0 ∧ c' = 0) → Keeps w w' → Below base w w' → wpList P ops Q rest (a.put o.dst (.slice A' (n + 1) c')) w') : wpList P ops Q (o :: rest) a w := by
  obtain ⟨i, hi, hz, hsz, hby⟩ := info_parts hinfo
  have hnews : ∀ j u, ([.int .i64 y, .int .i64 z] : List Value)[j]? = some u → w.cell? ((⟨g, 0, none⟩ : Addr).add j) = some u := by
    intro j u hj
    rw [add_plain, Nat.zero_add]
    match j, hj with
    | 0, hj => injection hj with hj; rw [← hj]; exact hc0
    | 1, hj => injection hj with hj; rw [← hj]; exact hc1
  have hone : ∀ u ∈ ([.int .i64 y, .int .i64 z] : List Value), u.oneCell' = true := fl2_one [(y, z)]
  have hll : (fl2 l).length = n * 2 := by rw [fl2_length, hv.1]
  have grow : ∀ v' w', w'.ownsRow w.heap.size 30 2 v' (n + 1) (fl2 l ++ [.int .i64 y, .int .i64 z]) → w.grownBy w' none → wpList P ops Q rest (a.put o.dst v') w' := by
    intro v' w' ho hg
    obtain ⟨A', c', rfl, hv'⟩ := HV.fresh hv.1 ho hbase
    refine h A' c' w' hv' (fun e => ?_) (Keeps.of_none hg) ((Below.refl _ _).grown hg hbase fun k hk => by cases hk)
    subst e
    rcases ho.2 with ⟨h1, _⟩ | ⟨_, _, _, h1, _⟩
    · injection h1 with _ h1; omega
    · cases h1
  rcases hv.2 with ⟨rfl, rfl⟩ | ⟨b, off, cs, rfl, hb, hc, hsz2, hcs, hnc, hcm⟩
  · have hl0 : l = [] := List.eq_nil_of_length_eq_zero hv.1
    subst hl0
    exact wpList_append_grows w hgd s x t hop 30 i _ 2 16 ht hi hz hsz hby rfl (by decide) A 0 0 [] hs (fun e => ⟨rfl, rfl⟩) rfl (fun b _ j u hj => by cases hj) ⟨g, 0, none⟩ 1 cc _ hx rfl hnews hone (by decide) (by decide) (by decide) grow
  · refine wpList_append_arg w hgd s x t hop 30 i _ 2 16 ht hi hz hsz hby rfl (by decide) b off n c (fl2 l) hs hll (fun j u hj => by rw [cell_of_row w b _ cs _ (0, 0) hc]; exact hcs j u hj) ⟨g, 0, none⟩ 1 cc [.int .i64 y, .int .i64 z] hx rfl hnews hone ?_ (by unfold maxLen; omega) (by omega) ?_ (fun _ => grow)
    · intro hr j hj
      exact (hv.write hr y z).2.1 j (by simpa using hj)
    · intro hr
      obtain ⟨k1, _, k3, k4⟩ := hv.write hr y z
      refine h _ _ _ k1 (fun e => by cases e) k3 ⟨rfl, rfl, rfl, by simp [World.setCells], fun k hk => ?_⟩
      show ((w.setCell ⟨b, off + n * 2, none⟩ _).setCell ⟨b, off + n * 2 + 1, none⟩ _).heap[k]? = _
      rw [Below.heap_setCell _ ⟨b, off + n * 2 + 1, none⟩ _ k (by simp; omega), Below.heap_setCell _ ⟨b, off + n * 2, none⟩ _ k (by simp; omega)]
theorem Spc.keeps {w w' : World} {p g c : Nat} {f : Int} {l : List Bool} (h : Spc w p f l g c) (k : Keeps w w') : Spc w' p f l g c := by
  obtain ⟨h1, h2⟩ := h.2.2
  refine ⟨(k.2.2.2.2 p _ _ (by decide) h.1).trans h.1, h.2.1, h1, ?_⟩
  rcases h2 with h2 | ⟨g2, cap, cur, ha, hb, hg, hrest⟩
  · exact .inl h2
  · exact .inr ⟨g2, cap, cur, ha, hb, (k.2.2.2.2 g2 _ _ (by decide) hg).trans hg, hrest⟩
theorem Row.keeps {w w' : World} {g : Nat} {t : TypeId} {k : IntKind} {l : List Nat} (h : Row w g t k l) (ht : t ≠ 30) (kk : Keeps w w') : Row w' g t k l := (kk.2.2.2.2 g _ _ ht h).trans h
end Go.Proofs.YtnmldploafpbdaaDoor
