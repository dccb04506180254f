
import Derived.Test.YtiacemlloaenoaaDoorNumB
import Derived.Test.YtiacemlloaenoaaDoorBase
import Derived.Test.YtiacemlloaenoaaDoorPlainMath
import Derived.Lib.AppendStr
import Derived.Deep.RegionWith
import Derived.Deep.RegionLaw
import Derived.BigQuiet
/- Package cell: Type, Count, All; fault.At; the six sentinels. -/

/- Walks of package cell: Type, Count. -/

namespace Go.Proofs.YtiacemlloaenoaaDoor
open Go.RowKit
set_option linter.unusedVariables false

/-- The sentinel in global g. -/
def CSent (w : World) (g : Nat) : Prop := ∃ a : Addr, w.cell? ⟨g, 0, none⟩ = some (.iface 110 (.pointer (some a)))
theorem CSent.later {w w' : World} {g : Nat} (h : CSent w g) (l : Later w w') : CSent w' g := h.elim fun a h => ⟨a, l.cell h⟩
/-- An error of fault.At. -/
def Where (v : Value) : Prop := ∃ p : Addr, v = .iface 81 (.pointer (some p))

end Go.Proofs.YtiacemlloaenoaaDoor

/- Walks of package cell: All. -/

namespace Go.Proofs.YtiacemlloaenoaaDoor
open Go.RowKit
set_option linter.unusedVariables false


end Go.Proofs.YtiacemlloaenoaaDoor

namespace Go.Proofs.YtiacemlloaenoaaDoor
open Go.RowKit
set_option linter.unusedVariables false

abbrev vagg (t i : Int) (s : ByteArray) : Value := .agg #[.int .i64 t, .int .i64 i, .string s]
theorem own_mono {w : World} {base base' : Nat} {e : TypeId} {v : Value} {n : Nat} {xs : List Value} (h : w.ownsRow base e 1 v n xs) (hb : base' ≤ base) : w.ownsRow base' e 1 v n xs := by
  obtain ⟨h1, h2⟩ := h
  refine ⟨h1, ?_⟩
  rcases h2 with h2 | ⟨g, cap, cur, ha, hb2, hrest⟩
  · exact .inl h2
  · exact .inr ⟨g, cap, cur, ha, Nat.le_trans hb hb2, hrest⟩
/-- A call that gives bytes of its own. -/
def Gives (l : List Nat) (w : World) (e : Ending) (w' : World) : Prop :=
  ∃ A c, e = .returned (.slice A l.length c) ∧ Has w' A (ints .u8 l) ∧ l.length ≤ c ∧ c ≤ 9223372036854775807 ∧ (A = none → c = 0) ∧ Later w w'
theorem own_capmax {w : World} {base : Nat} {e : TypeId} {A : Option Addr} {c : Nat} {n : Nat} {xs : List Value} (h : w.ownsRow base e 1 (.slice A n c) n xs) : c ≤ 9223372036854775807 := by
  rcases h.2 with ⟨h1, rfl⟩ | ⟨g, cap, cur, h1, _, _, _, h2, _⟩
  · injection h1 with _ _ h1; omega
  · injection h1 with _ _ h1
    unfold maxLen at h2
    omega
theorem Makes.gives {l : List Nat} {w : World} {e : Ending} {w' : World} (h : Makes l w e w') : Gives l w e w' := by
  obtain ⟨A, c, rfl, ho, hb, hn⟩ := h
  exact ⟨A, c, rfl, Has.own ho, own_cap ho, own_capmax ho, hn, hb⟩

theorem wpList_append_str {P : Program} (w : World) {ops : Array Oper} {rest : List Oper} {o : Oper} {a : Act} {Q : Exit → Act → World → Prop} (hgd : o.guard = none) (sl x : Operand) (t u : TypeId)
    (ho : o.op = .call { callee := .builtin .append, args := #[sl, x], argTypes := #[t, u] })
    (base : Nat) (e : TypeId) (ht : P.underlying t = some (.slice e)) (hu : P.underlying u = some .string) (hinfo : (P.info? e).map (fun i => (i.zero, i.size, i.bytes)) = some (some (.int .u8 0), 1, 1))
    (v : Value) (n : Nat) (xs : List Value) (hs : a.eval sl = v) (hown : w.ownsRow base e 1 v n xs) (s : ByteArray) (hx : a.eval x = .string s)
    (h63 : n + s.size ≤ maxLen) (hbytes : n + s.size ≤ 140737488355328) (hbase : base ≤ w.heap.size)
    (h : ∀ A' c' w', w'.ownsRow base e 1 (.slice A' (n + s.size) c') (n + s.size) (xs ++ Lib.strCells s) → Below base w w' → (A' = none → c' = 0) → wpList P ops Q rest (a.put o.dst (.slice A' (n + s.size) c')) w') : wpList P ops Q (o :: rest) a w := by
  obtain ⟨i, hi, hz, hsz, hby⟩ := info_parts hinfo
  refine Lib.wpList_append_own_string w hgd sl x t u ho base e i ht hu hi hz hsz hby v n xs hs hown s hx h63 hbytes hbase fun v' w' h2 h3 _ => ?_
  obtain ⟨A', c', hv, hc'⟩ := own_shape h2
  subst hv
  exact h A' c' w' h2 ((Below.refl _ _).grown h3 hbase fun k hk => (hown.lt k hk).1) hc'

theorem conv_str (A : Option Addr) (n c : Nat) (l : List Nat) (hn : n = l.length) (w : World) (B : Nat) (hr : Rd w B A (ints .u8 l)) :
    (convert 22 9 (.slice A n c)).run Tryd.prog w = .ok (.string (bstr l)) w :=
  run_bstr 22 5 9 Tryd.underlying22 Tryd.underlying5 Tryd.underlying9 A n c l hn w B hr
theorem three_blk {w : World} {g : Nat} {cs : Array Value} {t : TypeId} (h : Blk w g cs t) (hs : cs.size = 3) (x y z : Value) : Blk (((w.setCell ⟨g, 0, none⟩ x).setCell ⟨g, 1, none⟩ y).setCell ⟨g, 2, none⟩ z) g #[x, y, z] t := by
  have := ((h.set_ 0 x).set_ 1 y).set_ 2 z
  have e : ((cs.setIfInBounds 0 x).setIfInBounds 1 y).setIfInBounds 2 z = #[x, y, z] := by
    match cs, hs with
    | ⟨[a, b, c]⟩, _ => rfl
  rwa [e] at this
theorem three_later {w w' : World} {g : Nat} (h : Later w w') (hg : w.heap.size ≤ g) (x y z : Value) : Later w (((w'.setCell ⟨g, 0, none⟩ x).setCell ⟨g, 1, none⟩ y).setCell ⟨g, 2, none⟩ z) := ((h.set_ hg _).set_ hg _).set_ hg _
theorem three_far {w : World} {g : Nat} {p : Addr} {v : Value} (h : CellIs w p v) (hne : p.block ≠ g) (x y z : Value) : CellIs (((w.setCell ⟨g, 0, none⟩ x).setCell ⟨g, 1, none⟩ y).setCell ⟨g, 2, none⟩ z) p v := ((h.far hne).far hne).far hne
/-- The worlds that a reader begins in: the box, the result. -/
theorem two_new (w : World) (cs ds : Array Value) (t u : TypeId) : ∃ w1, w1 = (w.alloc (.cells cs t)).alloc (.cells ds u) ∧ Later w w1 ∧ Blk w1 w.heap.size cs t ∧ Blk w1 (w.heap.size + 1) ds u ∧ w1.heap.size = w.heap.size + 2 :=
  ⟨_, rfl, ((Later.refl w).alloc _).alloc _, (Blk.new w cs t _ rfl).later (Later.new _ _), Blk.new _ ds u _ (by simp), by simp⟩
/-- fault.At of a sentinel. -/
theorem at_l (s : ByteArray) (p : Int) (x : Value) (w : World) :
    Calls Tryd.prog 18 #[.string s, .int .i64 p, .iface 110 x] w fun r w' => ∃ q, r = .returned (.iface 81 (.pointer (some q))) ∧ Later w w' :=
  (at_any s p _ x w rfl).mono fun r w' ⟨h1, h2⟩ => ⟨_, h1, h2 ▸ Later.new _ _⟩
/-- fault.At of an error of fault.At. -/
theorem at_w (s : ByteArray) (p : Int) (x : Addr) (w : World) :
    Calls Tryd.prog 18 #[.string s, .int .i64 p, .iface 81 (.pointer (some x))] w fun r w' => ∃ q, r = .returned (.iface 81 (.pointer (some q))) ∧ Later w w' := by
  have hif : Tryd.prog.isIface 59 = true := by kernel_rfl
  have heq := run_eql_iface_nil (P := Tryd.prog) (w := w.alloc (.cells #[.iface 81 (.pointer (some x))] 59)) 59 hif 81 (.pointer (some x))
  have heq2 := run_eql_iface_nil (P := Tryd.prog) (w := w) 59 hif 81 (.pointer (some x))
  go_enter Tryd.func18, Tryd.ntmps18
  go_wp2
  go_ret
  exact ⟨_, rfl, Later.new _ _⟩
theorem readC_num {t : Int} {b : List Nat} (ht : t = 1 ∨ t = 2) : readC t b = (match takeNum b with | some (u, n) => some (zag u, [], n) | none => none) := by unfold readC; rw [if_pos ht]; rcases takeNum b with _ | ⟨u, n⟩ <;> rfl
theorem takeR_some {b : List Nat} {v n : Nat} {ok : Bool} (h : takeR b = (v, n, ok)) : (ok = true ∧ takeNum b = some (v, n)) ∨ (ok = false ∧ takeNum b = none) := by
  unfold takeR at h
  split at h
  · rename_i hT
    cases h
    exact .inl ⟨rfl, hT⟩
  · rename_i hT
    cases h
    exact .inr ⟨rfl, hT⟩

end Go.Proofs.YtiacemlloaenoaaDoor

/- Lists that calls give; fault.List; the reference's SameValues. -/

namespace Go.Proofs.YtiacemlloaenoaaDoor
open Go.RowKit
set_option linter.unusedVariables false

instance (t : Int) (l : List Val3) : Decidable (OkL t l) := by unfold OkL; infer_instance
theorem own_later {w w' : World} {base : Nat} {e : TypeId} {k : Nat} {v : Value} {n : Nat} {xs : List Value} (h : w.ownsRow base e k v n xs) (l : Later w w') : w'.ownsRow base e k v n xs := by
  obtain ⟨h1, h2⟩ := h
  refine ⟨h1, ?_⟩
  rcases h2 with h2 | ⟨g, cap, cur, ha, hb, hg, hrest⟩
  · exact .inl h2
  · refine .inr ⟨g, cap, cur, ha, hb, (Below.block l g ?_).trans hg, hrest⟩
    rcases Nat.lt_or_ge g w.heap.size with h' | h'
    · exact h'
    · rw [Array.getElem?_eq_none h'] at hg; cases hg

/-- What a call tells that gives a list, or an error. -/
def WritesB (o : Option (List Nat)) (w : World) (e : Ending) (w' : World) : Prop :=
  ((o = none ∧ ∃ p, e = .returned (.tuple #[.slice none 0 0, .iface 81 (.pointer (some p))])) ∨
    ∃ l A c, o = some l ∧ e = .returned (.tuple #[.slice A l.length c, .nilIface]) ∧ Has w' A (ints .u8 l) ∧ l.length ≤ c ∧ c ≤ 9223372036854775807 ∧ (A = none → c = 0)) ∧ Later w w'
def WritesV (o : Option (List Val3)) (w : World) (e : Ending) (w' : World) : Prop :=
  ((o = none ∧ ∃ p, e = .returned (.tuple #[.slice none 0 0, .iface 81 (.pointer (some p))])) ∨
    ∃ l A c, o = some l ∧ e = .returned (.tuple #[.slice A l.length c, .nilIface]) ∧ Has w' A (fl l) ∧ l.length ≤ c ∧ c ≤ 9223372036854775807) ∧ Later w w'
/-- What a face tells: a list, or a no. -/
def PutsB (o : Option (List Nat)) (w : World) (e : Ending) (w' : World) : Prop :=
  ((o = none ∧ e = .returned (.tuple #[.slice none 0 0, .bool false])) ∨
    ∃ l A c, o = some l ∧ e = .returned (.tuple #[.slice A l.length c, .bool true]) ∧ Has w' A (ints .u8 l) ∧ l.length ≤ c ∧ c ≤ 9223372036854775807 ∧ (A = none → c = 0)) ∧ Later w w'
def PutsV (o : Option (List Val3)) (w : World) (e : Ending) (w' : World) : Prop :=
  ((o = none ∧ e = .returned (.tuple #[.slice none 0 0, .bool false])) ∨
    ∃ l A c, o = some l ∧ e = .returned (.tuple #[.slice A l.length c, .bool true]) ∧ Has w' A (fl l)) ∧ Later w w'
/-- .. with the row's room. -/
def TakesV (o : Option (List Val3)) (w : World) (e : Ending) (w' : World) : Prop :=
  ((o = none ∧ e = .returned (.tuple #[.slice none 0 0, .bool false])) ∨
    ∃ l A c, o = some l ∧ e = .returned (.tuple #[.slice A l.length c, .bool true]) ∧ Has w' A (fl l) ∧ l.length ≤ c ∧ c ≤ 9223372036854775807) ∧ Later w w'
theorem TakesV.puts {o : Option (List Val3)} {w w' : World} {e : Ending} (h : TakesV o w e w') : PutsV o w e w' := by
  obtain ⟨h | ⟨l, A, c, h1, h2, h3, _⟩, L⟩ := h
  · exact ⟨.inl h, L⟩
  · exact ⟨.inr ⟨l, A, c, h1, h2, h3⟩, L⟩
theorem PutsB.no {o : Option (List Nat)} {w w' : World} {e : Ending} (h : PutsB o w e w') (hn : o = none) : e = .returned (.tuple #[.slice none 0 0, .bool false]) ∧ Later w w' := by
  obtain ⟨⟨_, h⟩ | ⟨l, A, c, h, _⟩, L⟩ := h
  · exact ⟨h, L⟩
  · rw [hn] at h; cases h
theorem PutsB.yes {o : Option (List Nat)} {w w' : World} {e : Ending} {l : List Nat} (h : PutsB o w e w') (hs : o = some l) : ∃ A c, e = .returned (.tuple #[.slice A l.length c, .bool true]) ∧ Has w' A (ints .u8 l) ∧ l.length ≤ c ∧ c ≤ 9223372036854775807 ∧ (A = none → c = 0) ∧ Later w w' := by
  obtain ⟨⟨h, _⟩ | ⟨l', A, c, h, h1, h2, h3, h4, h5⟩, L⟩ := h
  · rw [hs] at h; cases h
  · rw [hs] at h; cases h; exact ⟨A, c, h1, h2, h3, h4, h5, L⟩
theorem PutsV.no {o : Option (List Val3)} {w w' : World} {e : Ending} (h : PutsV o w e w') (hn : o = none) : e = .returned (.tuple #[.slice none 0 0, .bool false]) ∧ Later w w' := by
  obtain ⟨⟨_, h⟩ | ⟨l, A, c, h, _⟩, L⟩ := h
  · exact ⟨h, L⟩
  · rw [hn] at h; cases h
theorem PutsV.yes {o : Option (List Val3)} {w w' : World} {e : Ending} {l : List Val3} (h : PutsV o w e w') (hs : o = some l) : ∃ A c, e = .returned (.tuple #[.slice A l.length c, .bool true]) ∧ Has w' A (fl l) ∧ Later w w' := by
  obtain ⟨⟨h, _⟩ | ⟨l', A, c, h, h1, h2⟩, L⟩ := h
  · rw [hs] at h; cases h
  · rw [hs] at h; cases h; exact ⟨A, c, h1, h2, L⟩

theorem info_v : (Tryd.prog.info? 40).map (fun i => (i.zero, i.size, i.bytes)) = some (some (vagg 0 0 ⟨#[]⟩), 3, 32) := by kernel_rfl
theorem Blk.has {w : World} {g : Nat} {cs : List Value} {t : TypeId} (h : Blk w g cs.toArray t) : Has w (some ⟨g, 0, none⟩) cs :=
  .inr ⟨g, 0, rfl, h.lt, fun k v hv => by rw [Nat.zero_add]; exact h.cell k v (by simpa using hv)⟩
theorem map_step {o : Option (List Val3)} (d : List Val3) (x : Val3) : (o.map fun l => x :: l).map (fun l => d ++ l) = o.map fun l => (d ++ [x]) ++ l := by
  cases o with
  | none => rfl
  | some l => simp

theorem bytes_ne {a b : ByteArray} (h : a ≠ b) : (a.toList == b.toList) = false := by
  rw [beq_eq_false_iff_ne, Lib.toList_data, Lib.toList_data]
  intro e
  apply h
  cases a; cases b
  congr 1
  exact Array.ext' e
def TellsP (p : Prop) (w : World) (e : Ending) (w' : World) : Prop := ∃ r : Bool, (r = true ↔ p) ∧ e = .returned (.bool r) ∧ Later w w'
theorem TellsP.yes {p : Prop} (hp : p) {w w' : World} {e : Ending} (h : TellsP p w e w') : e = .returned (.bool true) ∧ Later w w' := by
  obtain ⟨r, hr, rfl, l⟩ := h
  rw [hr.2 hp]; exact ⟨rfl, l⟩
theorem TellsP.no {p : Prop} (hp : ¬ p) {w w' : World} {e : Ending} (h : TellsP p w e w') : e = .returned (.bool false) ∧ Later w w' := by
  obtain ⟨r, hr, rfl, l⟩ := h
  cases r
  · exact ⟨rfl, l⟩
  · exact absurd (hr.1 rfl) hp
theorem TellsP.t {p : Prop} (hp : p) {w w' : World} (l : Later w w') : TellsP p w (.returned (.bool true)) w' := ⟨true, by simp [hp], rfl, l⟩
theorem TellsP.f {p : Prop} (hp : ¬ p) {w w' : World} (l : Later w w') : TellsP p w (.returned (.bool false)) w' := ⟨false, by simp [hp], rfl, l⟩

end Go.Proofs.YtiacemlloaenoaaDoor

/- Package cell: Put. -/

namespace Go.Proofs.YtiacemlloaenoaaDoor
open Go.RowKit
set_option linter.unusedVariables false


end Go.Proofs.YtiacemlloaenoaaDoor

/- Walks of bytes.Equal; of package cell: Same. -/

namespace Go.Proofs.YtiacemlloaenoaaDoor
open Go.RowKit
set_option linter.unusedVariables false

end Go.Proofs.YtiacemlloaenoaaDoor
