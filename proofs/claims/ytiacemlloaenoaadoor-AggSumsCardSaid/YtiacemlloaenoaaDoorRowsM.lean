/- Rows and columns of values in memory; schemas' columns; what appends leave alone. -/
import Derived.Test.YtiacemlloaenoaaDoorCell
namespace Go.Proofs.YtiacemlloaenoaaDoor
open Go.RowKit
set_option linter.unusedVariables false

/-- The slice holds xs, in a block that is there and is not the block o. -/
def HasX (o : Option Nat) (w : World) (A : Option Addr) (xs : List Value) : Prop :=
  xs = [] ∨ ∃ b off, A = some ⟨b, off, none⟩ ∧ b < w.heap.size ∧ some b ≠ o ∧ ∀ k v, xs[k]? = some v → w.cell? ⟨b, off + k, none⟩ = some v
section
variable {o o' : Option Nat} {w w' : World} {A : Option Addr} {xs : List Value}
theorem HasX.has (h : HasX o w A xs) : Has w A xs := by
  rcases h with h | ⟨b, off, hA, hb, _, hc⟩
  · exact .inl h
  · exact .inr ⟨b, off, hA, hb, hc⟩
theorem HasX.of (h : Has w A xs) : HasX none w A xs := by
  rcases h with h | ⟨b, off, hA, hb, hc⟩
  · exact .inl h
  · exact .inr ⟨b, off, hA, hb, by simp, hc⟩
theorem HasX.later (h : HasX o w A xs) (l : Later w w') : HasX o w' A xs := by
  rcases h with h | ⟨b, off, hA, hb, hn, hc⟩
  · exact .inl h
  · exact .inr ⟨b, off, hA, Nat.lt_of_lt_of_le hb l.size, hn, fun k v hv => l.cell (hc k v hv)⟩
theorem cell_block {b k : Nat} (h : w'.heap[b]? = w.heap[b]?) : w'.cell? ⟨b, k, none⟩ = w.cell? ⟨b, k, none⟩ := World.cell?_of_block (w := w) h
theorem HasX.grown (h : HasX o w A xs) (g : w.grownBy w' o) (ho : o' = o ∨ o' = some w.heap.size) : HasX o' w' A xs := by
  rcases h with h | ⟨b, off, hA, hb, hn, hc⟩
  · exact .inl h
  · refine .inr ⟨b, off, hA, Nat.lt_of_lt_of_le hb g.size, ?_, fun k v hv => ?_⟩
    · rcases ho with rfl | rfl
      · exact hn
      · intro e; injection e with e; omega
    · rw [cell_block (g.block b hb hn)]; exact hc k v hv
/-- What a row of a call's own holds lies in no block that was there ahead of it. -/
theorem HasX.own {base n c size : Nat} {e : TypeId} (h : w.ownsRow base e size (.slice A n c) n xs) (ho : ∀ g, o = some g → g < base) : HasX o w A xs := by
  have h1 : Has w A xs := Has.ownG h
  rcases h1 with h1 | ⟨b, off, hA, hb, hc⟩
  · exact .inl h1
  · refine .inr ⟨b, off, hA, hb, ?_, hc⟩
    rintro rfl
    have h2 := ho b rfl
    have := (h.lt b (by subst hA; rfl)).1
    omega
end

/-- A row (or a column) of values: where it lies, its room, what it is. -/
structure SlV where
  a : Option Addr
  c : Nat
  l : List Val3
instance : Inhabited SlV := ⟨⟨none, 0, []⟩⟩
def SlV.v (s : SlV) : Value := .slice s.a s.l.length s.c
theorem SlV.v_eq (s : SlV) : s.v = .slice s.a s.l.length s.c := rfl
def SlV.okX (o : Option Nat) (w : World) (s : SlV) : Prop := HasX o w s.a (fl s.l) ∧ s.l.length ≤ s.c ∧ s.c ≤ 9223372036854775807 ∧ (s.a = none → s.c = 0)
theorem SlV.okX.later {o : Option Nat} {w w' : World} {s : SlV} (h : s.okX o w) (l : Later w w') : s.okX o w' := ⟨h.1.later l, h.2⟩
theorem SlV.okX.grown {o o' : Option Nat} {w w' : World} {s : SlV} (h : s.okX o w) (g : w.grownBy w' o) (ho : o' = o ∨ o' = some w.heap.size) : s.okX o' w' := ⟨h.1.grown g ho, h.2⟩
theorem SlV.okX.own {o : Option Nat} {w : World} {base n c : Nat} {e : TypeId} {A : Option Addr} {l : List Val3} (h : w.ownsRow base e 3 (.slice A n c) n (fl l)) (hn : n = l.length) (hA : A = none → c = 0) (ho : ∀ g, o = some g → g < base) : (⟨A, c, l⟩ : SlV).okX o w := by
  subst hn
  exact ⟨HasX.own h ho, ownG_cap h, ownG_capmax h, hA⟩
/-- A slice of rows (or of columns). -/
def RowsAt (w : World) (A : Option Addr) (ss : List SlV) : Prop := Has w A (ss.map SlV.v) ∧ ∀ s ∈ ss, s.okX none w
theorem RowsAt.later {w w' : World} {A : Option Addr} {ss : List SlV} (h : RowsAt w A ss) (l : Later w w') : RowsAt w' A ss := ⟨h.1.later l, fun s hs => (h.2 s hs).later l⟩
theorem RowsAt.get {w : World} {A : Option Addr} {ss : List SlV} (h : RowsAt w A ss) (k : Nat) (hk : k < ss.length) :
    ∃ b off, A = some ⟨b, off, none⟩ ∧ w.cell? ⟨b, off + k, none⟩ = some (.slice ss[k].a ss[k].l.length ss[k].c) ∧ Has w ss[k].a (fl ss[k].l) ∧ ss[k].l.length ≤ ss[k].c ∧ ss[k].c ≤ 9223372036854775807 ∧ (ss[k].a = none → ss[k].c = 0) := by
  have ho := h.2 _ (List.getElem_mem hk)
  rcases h.1 with h1 | ⟨b, off, hA, _, hc⟩
  · have h2 : ss = [] := by simpa using h1
    subst h2
    simp at hk
  · refine ⟨b, off, hA, hc k _ ?_, ho.1.has, ho.2⟩
    rw [List.getElem?_map, List.getElem?_eq_getElem hk]; rfl
/-- Rows on their way: the slice of them the call's own, its block none of theirs. -/
def RowsOn (base : Nat) (w : World) (A : Option Addr) (n c : Nat) (ss : List SlV) : Prop :=
  n = ss.length ∧ w.ownsRow base 48 1 (.slice A n c) n (ss.map SlV.v) ∧ (∀ s ∈ ss, s.okX (Value.slice A n c).ownBlock w) ∧ (A = none → c = 0)
theorem RowsOn.later {base : Nat} {w w' : World} {A : Option Addr} {n c : Nat} {ss : List SlV} (h : RowsOn base w A n c ss) (l : Later w w') : RowsOn base w' A n c ss := ⟨h.1, own_later h.2.1 l, fun s hs => (h.2.2.1 s hs).later l, h.2.2.2⟩
theorem HasX.weak {o : Option Nat} {w : World} {A : Option Addr} {xs : List Value} (h : HasX o w A xs) : HasX none w A xs := HasX.of h.has
theorem RowsOn.at_ {base : Nat} {w : World} {A : Option Addr} {n c : Nat} {ss : List SlV} (h : RowsOn base w A n c ss) : RowsAt w A ss ∧ n ≤ c ∧ c ≤ 9223372036854775807 :=
  ⟨⟨Has.own h.2.1, fun s hs => ⟨(h.2.2.1 s hs).1.weak, (h.2.2.1 s hs).2⟩⟩, ownG_cap h.2.1, ownG_capmax h.2.1⟩
theorem RowsOn.nil_ (base : Nat) (w : World) : RowsOn base w none 0 0 [] := ⟨rfl, ownG_nil _ _ _ _, (fun s hs => by cases hs), fun _ => rfl⟩

theorem info_row : (Tryd.prog.info? 48).map (fun i => (i.zero, i.size, i.bytes)) = some (some (.slice none 0 0), 1, 24) := by kernel_rfl

/-- append of a literal's elements onto a row of the call's own; what it leaves alone is told whole. -/
theorem wpList_append_x {P : Program} (w : World) {ops : Array Oper} {rest : List Oper} {o : Oper} {a : Act} {Q : Exit → Act → World → Prop} (hgd : o.guard = none) (s x : Operand) (t : TypeId)
    (ho : o.op = .call { callee := .builtin .append, args := #[s, x], argTypes := #[t, t] })
    (base : Nat) (e : TypeId) (z : Value) (size bytes : Nat) (ht : P.underlying t = some (.slice e)) (hinfo : (P.info? e).map (fun i => (i.zero, i.size, i.bytes)) = some (some z, size, bytes)) (hzs : z.cells.size = size) (hsz0 : 0 < size)
    (v : Value) (n : Nat) (xs : List Value) (hs : a.eval s = v) (hown : w.ownsRow base e size v n xs)
    (b off m c : Nat) (news : List Value) (hx : a.eval x = .slice (some ⟨b, off, none⟩) m c) (hr : Has w (some ⟨b, off, none⟩) news) (hm : news.length = m * size) (h1 : ∀ u ∈ news, u.oneCell' = true)
    (h63 : n + m ≤ maxLen) (hbytes : (n + m) * bytes ≤ 140737488355328) (hbase : base ≤ w.heap.size)
    (h : ∀ A' c' w', w'.ownsRow base e size (.slice A' (n + m) c') (n + m) (xs ++ news) → w.grownBy w' v.ownBlock → Below base w w' → ((Value.slice A' (n + m) c').ownBlock = v.ownBlock ∨ (Value.slice A' (n + m) c').ownBlock = some w.heap.size) → (A' = none → c' = 0) → wpList P ops Q rest (a.put o.dst (.slice A' (n + m) c')) w') : wpList P ops Q (o :: rest) a w := by
  obtain ⟨i, hi, hz, hsz, hby⟩ := info_parts hinfo
  have hcells : ∀ j u, news[j]? = some u → w.cell? ((⟨b, off, none⟩ : Addr).add j) = some u := by
    intro j u hu
    rcases hr with h | ⟨b', off', h, _, hc⟩
    · subst h; simp at hu
    · injection h with h
      injection h with h1 h2
      subst h1 h2
      rw [add_plain]
      exact hc j u hu
  refine wpList_append_own_at w hgd s x t ho base e i z size bytes ht hi hz hsz hby hzs hsz0 v n xs hs hown ⟨b, off, none⟩ m c news hx hm hcells h1 h63 hbytes hbase fun v' w' h2 h3 _ hat => ?_
  obtain ⟨A', c', hv, hc'⟩ := ownG_shape h2
  subst hv
  exact h A' c' w' h2 h3 ((Below.refl _ _).grown h3 hbase fun k hk => (hown.lt k hk).1) hat hc'

/-- A row more. -/
theorem RowsOn.more {base : Nat} {w w' : World} {A A' : Option Addr} {n c c' : Nat} {ss : List SlV} {s : SlV} (h : RowsOn base w A n c ss)
    (hs : s.okX (Value.slice A n c).ownBlock w) (ho : w'.ownsRow base 48 1 (.slice A' (n + 1) c') (n + 1) (ss.map SlV.v ++ [s.v])) (g : w.grownBy w' (Value.slice A n c).ownBlock) (hat : (Value.slice A' (n + 1) c').ownBlock = (Value.slice A n c).ownBlock ∨ (Value.slice A' (n + 1) c').ownBlock = some w.heap.size) (hn : A' = none → c' = 0) : RowsOn base w' A' (n + 1) c' (ss ++ [s]) := by
  refine ⟨by rw [List.length_append, ← h.1]; rfl, ?_, fun x hx => ?_, hn⟩
  · rw [List.map_append]; exact ho
  · rcases List.mem_append.1 hx with hx | hx
    · exact (h.2.2.1 x hx).grown g hat
    · rw [List.mem_singleton] at hx; subst hx; exact hs.grown g hat

/-- A column of a schema: its ID, name, type. -/
abbrev Col3 := Int × ByteArray × Int
abbrev cagg (x : Int) (s : ByteArray) (t : Int) : Value := .agg #[.int .i64 x, .string s, .int .i64 t]
def fc (l : List Col3) : List Value := l.flatMap fun x => [.int .i64 x.1, .string x.2.1, .int .i64 x.2.2]
theorem fc_append (a b : List Col3) : fc (a ++ b) = fc a ++ fc b := List.flatMap_append
theorem fc_length : ∀ l : List Col3, (fc l).length = l.length * 3
  | [] => rfl
  | x :: r => by
    have := fc_length r
    show ([_, _, _] ++ fc r).length = _
    rw [List.length_append, this, List.length_cons]
    simp; omega
theorem fc_get : ∀ (l : List Col3) (k : Nat) (h : k < l.length), (fc l)[k * 3]? = some (.int .i64 l[k].1) ∧ (fc l)[k * 3 + 1]? = some (.string l[k].2.1) ∧ (fc l)[k * 3 + 2]? = some (.int .i64 l[k].2.2)
  | x :: r, 0, _ => ⟨rfl, rfl, rfl⟩
  | x :: r, k + 1, h => by
    have ih := fc_get r k (by simpa using h)
    rw [show (k + 1) * 3 = k * 3 + 3 by omega, show k * 3 + 3 + 1 = k * 3 + 1 + 3 by omega, show k * 3 + 3 + 2 = k * 3 + 2 + 3 by omega]
    exact ih
theorem fc_one (l : List Col3) : ∀ u ∈ fc l, u.oneCell' = true := by
  intro u hu
  obtain ⟨x, _, hx⟩ := List.mem_flatMap.1 hu
  simp only [List.mem_cons, List.not_mem_nil, or_false] at hx
  rcases hx with rfl | rfl | rfl <;> rfl
theorem Has.col3 {w : World} {A : Option Addr} {l : List Col3} (h : Has w A (fc l)) (k : Nat) (hk : k < l.length) :
    ∃ b off, A = some ⟨b, off, none⟩ ∧ w.cell? ⟨b, off + k * 3, none⟩ = some (.int .i64 l[k].1) ∧ w.cell? ⟨b, off + k * 3 + 1, none⟩ = some (.string l[k].2.1) ∧ w.cell? ⟨b, off + k * 3 + 2, none⟩ = some (.int .i64 l[k].2.2) := by
  rcases h with h | ⟨b, off, hA, _, hc⟩
  · have h1 := fc_length l
    rw [h] at h1
    simp at h1
    omega
  · obtain ⟨h0, h1, h2⟩ := fc_get l k hk
    exact ⟨b, off, hA, hc _ _ h0, hc _ _ h1, hc _ _ h2⟩
/-- The place of the first column of that name. -/
def findC (l : List Col3) (nm : ByteArray) : Option Nat := l.findIdx? fun x => decide (x.2.1 = nm)
def findI (l : List Col3) (id : Int) : Option Nat := l.findIdx? fun x => decide (x.1 = id)
theorem firstAt {l : List Col3} {p : Col3 → Bool} {k : Nat} (hk : k < l.length) (h : p l[k] = true) (hb : ∀ i (hi : i < l.length), i < k → p l[i] = false) : l.findIdx? p = some k := by
  rw [List.findIdx?_eq_some_iff_getElem]
  exact ⟨hk, h, fun j hj => by simpa using hb j (by omega) hj⟩
theorem firstNo {l : List Col3} {p : Col3 → Bool} (hb : ∀ i (hi : i < l.length), p l[i] = false) : l.findIdx? p = none := by
  rw [List.findIdx?_eq_none_iff]
  intro x hx
  obtain ⟨i, hi, rfl⟩ := List.getElem_of_mem hx
  exact hb i hi
theorem findC_lt {l : List Col3} {nm : ByteArray} {k : Nat} (h : findC l nm = some k) : ∃ hk : k < l.length, l[k].2.1 = nm := by
  unfold findC at h
  rw [List.findIdx?_eq_some_iff_getElem] at h
  obtain ⟨hk, h1, _⟩ := h
  exact ⟨hk, by simpa using h1⟩
end Go.Proofs.YtiacemlloaenoaaDoor
