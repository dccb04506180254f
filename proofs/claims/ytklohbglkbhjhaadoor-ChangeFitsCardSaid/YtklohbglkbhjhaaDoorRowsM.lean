
import Derived.Test.YtklohbglkbhjhaaDoorBase
import Derived.WalkKit
import Derived.Laws.OwnMore
import Derived.Laws.BytesArg
import Derived.Laws.Rows
import Derived.Deep.AppendLies
import Derived.Deep.Draws
import Derived.Test.YtklohbglkbhjhaaDoorChecked
import Derived.Deep.OwnRows
import Derived.Lib.Hide
import Derived.Deep.Quiet
import Derived.Laws.AppendOwnNone
import Derived.Lib.Strings
import Derived.Outline
import Derived.WalkLawsBesides
import Derived.WalkSpells
import Derived.PlainAid
import Derived.Deep.QuietTactic
import Derived.BigQuiet
import Derived.RegionTactic
import Derived.BigRegion
import Derived.Handy
import Derived.Laws.BitsAllLaws
import Derived.Deep.RegionWith
import Derived.Lib.AppendStr
import Derived.Deep.RegionLaw
import Derived.Maps.AppendAt
import Derived.OpenShut
import Derived.WideShapes
import Derived.ChangeArms
import Derived.Deep.Slices
import Derived.Sort.Grow
import Derived.LaidEql
import Derived.Stop.Asserts
import Derived.RowKitTokens
import Derived.Laws.BitsLemmas
import Derived.Laws.Bits64
import Derived.WalkSmall
import Derived.Stop.IfaceNil
import Derived.Lib.Bytealg
import Derived.Deep.SlicePairs
import Derived.OrdersHeld
import Derived.Lib.SliceRun
/- Rows and columns of values in memory; schemas' columns; what appends leave alone. -/

namespace Go.Proofs.YtklohbglkbhjhaaDoor
open Go.RowKit
set_option linter.unusedVariables false

/-- The slice holds xs, in a block that is there and is not the block o. -/
def HasX (o : Option Nat) (w : World) (A : Option Addr) (xs : List Value) : Prop :=
  xs = [] ∨ ∃ b off, A = some ⟨b, off, none⟩ ∧ b < w.heap.size ∧ some b ≠ o ∧ ∀ k v, xs[k]? = some v → w.cell? ⟨b, off + k, none⟩ = some v
section
variable {o o' : Option Nat} {w w' : World} {A : Option Addr} {xs : List Value}
theorem HasX.has (h : HasX o w A xs) : Has w A xs := by
  rcases h with h | ⟨b, off, hA, hb, _, hc⟩
  · exact .inl h
  · exact .inr ⟨b, off, hA, hb, hc⟩
theorem HasX.of (h : Has w A xs) : HasX none w A xs := by
  rcases h with h | ⟨b, off, hA, hb, hc⟩
  · exact .inl h
  · exact .inr ⟨b, off, hA, hb, by simp, hc⟩
theorem HasX.later (h : HasX o w A xs) (l : Later w w') : HasX o w' A xs := by
  rcases h with h | ⟨b, off, hA, hb, hn, hc⟩
  · exact .inl h
  · exact .inr ⟨b, off, hA, Nat.lt_of_lt_of_le hb l.size, hn, fun k v hv => l.cell (hc k v hv)⟩
theorem cell_block {b k : Nat} (h : w'.heap[b]? = w.heap[b]?) : w'.cell? ⟨b, k, none⟩ = w.cell? ⟨b, k, none⟩ := World.cell?_of_block (w := w) h
theorem HasX.grown (h : HasX o w A xs) (g : w.grownBy w' o) (ho : o' = o ∨ o' = some w.heap.size) : HasX o' w' A xs := by
  rcases h with h | ⟨b, off, hA, hb, hn, hc⟩
  · exact .inl h
  · refine .inr ⟨b, off, hA, Nat.lt_of_lt_of_le hb g.size, ?_, fun k v hv => ?_⟩
    · rcases ho with rfl | rfl
      · exact hn
      · intro e; injection e with e; omega
    · rw [cell_block (g.block b hb hn)]; exact hc k v hv
/-- What a row of a call's own holds lies in no block that was there ahead of it. -/
theorem HasX.own {base n c size : Nat} {e : TypeId} (h : w.ownsRow base e size (.slice A n c) n xs) (ho : ∀ g, o = some g → g < base) : HasX o w A xs := by
  have h1 : Has w A xs := Has.ownG h
  rcases h1 with h1 | ⟨b, off, hA, hb, hc⟩
  · exact .inl h1
  · refine .inr ⟨b, off, hA, hb, ?_, hc⟩
    rintro rfl
    have h2 := ho b rfl
    have := (h.lt b (by subst hA; rfl)).1
    omega
end

/-- A row (or a column) of values: where it lies, its room, what it is. -/
structure SlV where
  a : Option Addr
  c : Nat
  l : List Val3
instance : Inhabited SlV := ⟨⟨none, 0, []⟩⟩
def SlV.v (s : SlV) : Value := .slice s.a s.l.length s.c
theorem SlV.v_eq (s : SlV) : s.v = .slice s.a s.l.length s.c := rfl
def SlV.okX (o : Option Nat) (w : World) (s : SlV) : Prop := HasX o w s.a (fl s.l) ∧ s.l.length ≤ s.c ∧ s.c ≤ 9223372036854775807 ∧ (s.a = none → s.c = 0)
theorem SlV.okX.later {o : Option Nat} {w w' : World} {s : SlV} (h : s.okX o w) (l : Later w w') : s.okX o w' := ⟨h.1.later l, h.2⟩
theorem SlV.okX.grown {o o' : Option Nat} {w w' : World} {s : SlV} (h : s.okX o w) (g : w.grownBy w' o) (ho : o' = o ∨ o' = some w.heap.size) : s.okX o' w' := ⟨h.1.grown g ho, h.2⟩
theorem SlV.okX.own {o : Option Nat} {w : World} {base n c : Nat} {e : TypeId} {A : Option Addr} {l : List Val3} (h : w.ownsRow base e 3 (.slice A n c) n (fl l)) (hn : n = l.length) (hA : A = none → c = 0) (ho : ∀ g, o = some g → g < base) : (⟨A, c, l⟩ : SlV).okX o w := by
  subst hn
  exact ⟨HasX.own h ho, ownG_cap h, ownG_capmax h, hA⟩
/-- A slice of rows (or of columns). -/
def RowsAt (w : World) (A : Option Addr) (ss : List SlV) : Prop := Has w A (ss.map SlV.v) ∧ ∀ s ∈ ss, s.okX none w
theorem RowsAt.later {w w' : World} {A : Option Addr} {ss : List SlV} (h : RowsAt w A ss) (l : Later w w') : RowsAt w' A ss := ⟨h.1.later l, fun s hs => (h.2 s hs).later l⟩
theorem RowsAt.get {w : World} {A : Option Addr} {ss : List SlV} (h : RowsAt w A ss) (k : Nat) (hk : k < ss.length) :
    ∃ b off, A = some ⟨b, off, none⟩ ∧ w.cell? ⟨b, off + k, none⟩ = some (.slice ss[k].a ss[k].l.length ss[k].c) ∧ Has w ss[k].a (fl ss[k].l) ∧ ss[k].l.length ≤ ss[k].c ∧ ss[k].c ≤ 9223372036854775807 ∧ (ss[k].a = none → ss[k].c = 0) := by
  have ho := h.2 _ (List.getElem_mem hk)
  rcases h.1 with h1 | ⟨b, off, hA, _, hc⟩
  · have h2 : ss = [] := by simpa using h1
    subst h2
    simp at hk
  · refine ⟨b, off, hA, hc k _ ?_, ho.1.has, ho.2⟩
    rw [List.getElem?_map, List.getElem?_eq_getElem hk]; rfl
/-- Rows on their way: the slice of them the call's own, its block none of theirs. -/
def RowsOn (base : Nat) (w : World) (A : Option Addr) (n c : Nat) (ss : List SlV) : Prop :=
  n = ss.length ∧ w.ownsRow base 33 1 (.slice A n c) n (ss.map SlV.v) ∧ (∀ s ∈ ss, s.okX (Value.slice A n c).ownBlock w) ∧ (A = none → c = 0)
theorem RowsOn.later {base : Nat} {w w' : World} {A : Option Addr} {n c : Nat} {ss : List SlV} (h : RowsOn base w A n c ss) (l : Later w w') : RowsOn base w' A n c ss := ⟨h.1, own_later h.2.1 l, fun s hs => (h.2.2.1 s hs).later l, h.2.2.2⟩
theorem HasX.weak {o : Option Nat} {w : World} {A : Option Addr} {xs : List Value} (h : HasX o w A xs) : HasX none w A xs := HasX.of h.has
theorem RowsOn.at_ {base : Nat} {w : World} {A : Option Addr} {n c : Nat} {ss : List SlV} (h : RowsOn base w A n c ss) : RowsAt w A ss ∧ n ≤ c ∧ c ≤ 9223372036854775807 :=
  ⟨⟨Has.own h.2.1, fun s hs => ⟨(h.2.2.1 s hs).1.weak, (h.2.2.1 s hs).2⟩⟩, ownG_cap h.2.1, ownG_capmax h.2.1⟩
theorem RowsOn.nil_ (base : Nat) (w : World) : RowsOn base w none 0 0 [] := ⟨rfl, ownG_nil _ _ _ _, (fun s hs => by cases hs), fun _ => rfl⟩

theorem info_row : (Tryd.prog.info? 33).map (fun i => (i.zero, i.size, i.bytes)) = some (some (.slice none 0 0), 1, 24) := by kernel_rfl

/-- append of a literal's elements onto a row of the call's own; what it leaves alone is told whole. -/
theorem wpList_append_x {P : Program} (w : World) {ops : Array Oper} {rest : List Oper} {o : Oper} {a : Act} {Q : Exit → Act → World → Prop} (hgd : o.guard = none) (s x : Operand) (t : TypeId)
    (ho : o.op = .call { callee := .builtin .append, args := #[s, x], argTypes := #[t, t] })
    (base : Nat) (e : TypeId) (z : Value) (size bytes : Nat) (ht : P.underlying t = some (.slice e)) (hinfo : (P.info? e).map (fun i => (i.zero, i.size, i.bytes)) = some (some z, size, bytes)) (hzs : z.cells.size = size) (hsz0 : 0 < size)
    (v : Value) (n : Nat) (xs : List Value) (hs : a.eval s = v) (hown : w.ownsRow base e size v n xs)
    (b off m c : Nat) (news : List Value) (hx : a.eval x = .slice (some ⟨b, off, none⟩) m c) (hr : Has w (some ⟨b, off, none⟩) news) (hm : news.length = m * size) (h1 : ∀ u ∈ news, u.oneCell' = true)
    (h63 : n + m ≤ maxLen) (hbytes : (n + m) * bytes ≤ 140737488355328) (hbase : base ≤ w.heap.size)
    (h : ∀ A' c' w', w'.ownsRow base e size (.slice A' (n + m) c') (n + m) (xs ++ news) → w.grownBy w' v.ownBlock → Below base w w' → ((Value.slice A' (n + m) c').ownBlock = v.ownBlock ∨ (Value.slice A' (n + m) c').ownBlock = some w.heap.size) → (A' = none → c' = 0) → wpList P ops Q rest (a.put o.dst (.slice A' (n + m) c')) w') : wpList P ops Q (o :: rest) a w := by
  obtain ⟨i, hi, hz, hsz, hby⟩ := info_parts hinfo
  have hcells : ∀ j u, news[j]? = some u → w.cell? ((⟨b, off, none⟩ : Addr).add j) = some u := by
    intro j u hu
    rcases hr with h | ⟨b', off', h, _, hc⟩
    · subst h; simp at hu
    · injection h with h
      injection h with h1 h2
      subst h1 h2
      rw [add_plain]
      exact hc j u hu
  refine wpList_append_own_at w hgd s x t ho base e i z size bytes ht hi hz hsz hby hzs hsz0 v n xs hs hown ⟨b, off, none⟩ m c news hx hm hcells h1 h63 hbytes hbase fun v' w' h2 h3 _ hat => ?_
  obtain ⟨A', c', hv, hc'⟩ := ownG_shape h2
  subst hv
  exact h A' c' w' h2 h3 ((Below.refl _ _).grown h3 hbase fun k hk => (hown.lt k hk).1) hat hc'

/-- A row more. -/
theorem RowsOn.more {base : Nat} {w w' : World} {A A' : Option Addr} {n c c' : Nat} {ss : List SlV} {s : SlV} (h : RowsOn base w A n c ss)
    (hs : s.okX (Value.slice A n c).ownBlock w) (ho : w'.ownsRow base 33 1 (.slice A' (n + 1) c') (n + 1) (ss.map SlV.v ++ [s.v])) (g : w.grownBy w' (Value.slice A n c).ownBlock) (hat : (Value.slice A' (n + 1) c').ownBlock = (Value.slice A n c).ownBlock ∨ (Value.slice A' (n + 1) c').ownBlock = some w.heap.size) (hn : A' = none → c' = 0) : RowsOn base w' A' (n + 1) c' (ss ++ [s]) := by
  refine ⟨by rw [List.length_append, ← h.1]; rfl, ?_, fun x hx => ?_, hn⟩
  · rw [List.map_append]; exact ho
  · rcases List.mem_append.1 hx with hx | hx
    · exact (h.2.2.1 x hx).grown g hat
    · rw [List.mem_singleton] at hx; subst hx; exact hs.grown g hat

/-- A column of a schema: its ID, name, type. -/
abbrev Col3 := Int × ByteArray × Int
abbrev cagg (x : Int) (s : ByteArray) (t : Int) : Value := .agg #[.int .i64 x, .string s, .int .i64 t]
def fc (l : List Col3) : List Value := l.flatMap fun x => [.int .i64 x.1, .string x.2.1, .int .i64 x.2.2]
theorem fc_append (a b : List Col3) : fc (a ++ b) = fc a ++ fc b := List.flatMap_append
theorem fc_length : ∀ l : List Col3, (fc l).length = l.length * 3
  | [] => rfl
  | x :: r => by
    have := fc_length r
    show ([_, _, _] ++ fc r).length = _
    rw [List.length_append, this, List.length_cons]
    simp; omega
theorem fc_get : ∀ (l : List Col3) (k : Nat) (h : k < l.length), (fc l)[k * 3]? = some (.int .i64 l[k].1) ∧ (fc l)[k * 3 + 1]? = some (.string l[k].2.1) ∧ (fc l)[k * 3 + 2]? = some (.int .i64 l[k].2.2)
  | x :: r, 0, _ => ⟨rfl, rfl, rfl⟩
  | x :: r, k + 1, h => by
    have ih := fc_get r k (by simpa using h)
    rw [show (k + 1) * 3 = k * 3 + 3 by omega, show k * 3 + 3 + 1 = k * 3 + 1 + 3 by omega, show k * 3 + 3 + 2 = k * 3 + 2 + 3 by omega]
    exact ih
theorem fc_one (l : List Col3) : ∀ u ∈ fc l, u.oneCell' = true := by
  intro u hu
  obtain ⟨x, _, hx⟩ := List.mem_flatMap.1 hu
  simp only [List.mem_cons, List.not_mem_nil, or_false] at hx
  rcases hx with rfl | rfl | rfl <;> rfl
theorem Has.col3 {w : World} {A : Option Addr} {l : List Col3} (h : Has w A (fc l)) (k : Nat) (hk : k < l.length) :
    ∃ b off, A = some ⟨b, off, none⟩ ∧ w.cell? ⟨b, off + k * 3, none⟩ = some (.int .i64 l[k].1) ∧ w.cell? ⟨b, off + k * 3 + 1, none⟩ = some (.string l[k].2.1) ∧ w.cell? ⟨b, off + k * 3 + 2, none⟩ = some (.int .i64 l[k].2.2) := by
  rcases h with h | ⟨b, off, hA, _, hc⟩
  · have h1 := fc_length l
    rw [h] at h1
    simp at h1
    omega
  · obtain ⟨h0, h1, h2⟩ := fc_get l k hk
    exact ⟨b, off, hA, hc _ _ h0, hc _ _ h1, hc _ _ h2⟩
/-- The place of the first column of that name. -/
def findC (l : List Col3) (nm : ByteArray) : Option Nat := l.findIdx? fun x => decide (x.2.1 = nm)
def findI (l : List Col3) (id : Int) : Option Nat := l.findIdx? fun x => decide (x.1 = id)
theorem firstAt {l : List Col3} {p : Col3 → Bool} {k : Nat} (hk : k < l.length) (h : p l[k] = true) (hb : ∀ i (hi : i < l.length), i < k → p l[i] = false) : l.findIdx? p = some k := by
  rw [List.findIdx?_eq_some_iff_getElem]
  exact ⟨hk, h, fun j hj => by simpa using hb j (by omega) hj⟩
theorem firstNo {l : List Col3} {p : Col3 → Bool} (hb : ∀ i (hi : i < l.length), p l[i] = false) : l.findIdx? p = none := by
  rw [List.findIdx?_eq_none_iff]
  intro x hx
  obtain ⟨i, hi, rfl⟩ := List.getElem_of_mem hx
  exact hb i hi
end Go.Proofs.YtklohbglkbhjhaaDoor

/- A region that draws its order: S holds until the last operation z (a store that waits for all others) has come up. -/


namespace Go.Proofs.YtklohbglkbhjhaaDoor
open Go
set_option linter.unusedVariables false

section
variable {P : Program} {ops : Array Oper} {Q : Exit → Act → World → Prop} {md : Region.Mode} {S : World → Prop} {z : Nat}

/-- Whatever order is picked from here on; behind every operation but z S holds. -/
def wpAnyZ (P : Program) (md : Region.Mode) (ops : Array Oper) (Q : Exit → Act → World → Prop) (z : Nat) (S : World → Prop) : Nat → Array Bool → Act → World → Prop
  | 0, listed, a, w => Region.ready md ops listed = [] ∧ Q .normal a w
  | fuel + 1, listed, a, w =>
    (Region.ready md ops listed = [] → Q .normal a w) ∧
    ∀ i ∈ Region.ready md ops listed, wpOp P ops Q i (fun a' w' => (i ≠ z → S w') ∧ wpAnyZ P md ops Q z S fuel (listed.setIfInBounds i true) a' w') a w

theorem wpAny_of_Z : ∀ (fuel : Nat) (listed : Array Bool) (a : Act) (w : World), wpAnyZ P md ops Q z S fuel listed a w → wpAny P md ops Q fuel listed a w
  | 0, _, _, _, h => h
  | fuel + 1, _, _, _, h => ⟨h.1, fun i hi => wpOp_mono (fun a' w' h' => wpAny_of_Z fuel _ a' w' h'.2) (h.2 i hi)⟩

theorem wpAnyZ_first {i : Nat} {oi : Oper} {v : Value} (hi : ops[i]? = some oi) (hsel : ∀ (j : Nat) (o : Oper) cs b, ops[j]? = some o → o.op ≠ .select cs b)
    (hQ : ∀ c a w, Q (.panic c) (a.put oi.dst v) w → Q (.panic c) a w) (hz : ∃ oz, ops[z]? = some oz ∧ ∃ e ∈ oz.after, Region.binds md e = true ∧ e.on = i) :
    ∀ (fuel : Nat) (listed : Array Bool) (a : Act) (w : World),
      (∀ j oj, ops[j]? = some oj → j ≠ i → listed.getD j true = false → (∀ e ∈ oj.after, Region.binds md e = true → e.on ≠ i) → oi.apart ops oj = true) →
      i ∈ Region.ready md ops listed → YieldsIf P ops S oi v a → S w →
      wpAnyZ P md ops Q z S fuel (listed.setIfInBounds i true) (a.put oi.dst v) w → wpAnyZ P md ops Q z S (fuel + 1) listed a w := by
  intro fuel
  induction fuel with
  | zero =>
    intro listed a w _ hr hy hS H
    refine ⟨fun h => (by rw [h] at hr; cases hr), fun j hj => ?_⟩
    by_cases hji : j = i
    · subst hji; exact hy.wpOp hi hS ⟨fun _ => hS, H⟩
    · have := ready_mono hj hji
      rw [H.1] at this
      cases this
  | succ fuel ih =>
    intro listed a w hfree hr hy hS H
    refine ⟨fun h => (by rw [h] at hr; cases hr), fun j hj => ?_⟩
    by_cases hji : j = i
    · subst hji; exact hy.wpOp hi hS ⟨fun _ => hS, H⟩
    · have h1 := H.2 j (ready_mono hj hji)
      obtain ⟨hjun, oj, hoj, hall⟩ := mem_ready.1 hj
      have hnot : ∀ e ∈ oj.after, Region.binds md e = true → e.on ≠ i := fun e he hb heq => by
        have h1 := hall e he hb
        have h0 := (mem_ready.1 hr).1
        rw [heq] at h1
        rcases Nat.lt_or_ge i listed.size with h' | h'
        · simp [h'] at h0 h1; rw [h0] at h1; cases h1
        · simp [Array.getElem?_eq_none h'] at h1
      have hjz : j ≠ z := by
        rintro rfl
        obtain ⟨oz, hoz, e, he, hb, heq⟩ := hz
        rw [hoj] at hoz
        injection hoz with hoz
        subst hoz
        exact hnot e he hb heq
      have h2 := wpOp_putIf hoj (hfree j oj hoj hji hjun hnot) (fun cs b => hsel i oi cs b hi) (fun cs b => hsel j oj cs b hoj) hQ hy h1
      have hfree' : ∀ k ok, ops[k]? = some ok → k ≠ i → (listed.setIfInBounds j true).getD k true = false →
          (∀ e ∈ ok.after, Region.binds md e = true → e.on ≠ i) → oi.apart ops ok = true := fun k ok hk hki hun hno => by
        refine hfree k ok hk hki ?_ hno
        by_cases hjk : j = k
        · subst hjk; exact hjun
        · rw [getD_set_ne true hjk] at hun; exact hun
      refine wpOp_mono (fun a' w' h3 => ⟨fun h => h3.2.1 h, ih (listed.setIfInBounds j true) a' w' hfree' (ready_mono hr (Ne.symm hji)) h3.1 (h3.2.1 hjz) ?_⟩) h2
      rw [Array.setIfInBounds_comm _ _ hji]
      exact h3.2.2

/-- Does z wait for i? -/
def waitsFor (md : Region.Mode) (ops : Array Oper) (z i : Nat) : Bool := match ops[z]? with | some o => o.after.toList.any fun e => Region.binds md e && e.on == i | none => false
theorem waitsFor_spec {i : Nat} (h : waitsFor md ops z i = true) : ∃ oz, ops[z]? = some oz ∧ ∃ e ∈ oz.after, Region.binds md e = true ∧ e.on = i := by
  unfold waitsFor at h
  split at h
  · rename_i o ho
    simp only [List.any_eq_true, Bool.and_eq_true, beq_iff_eq] at h
    obtain ⟨e, he, hb, heq⟩ := h
    exact ⟨o, ho, e, by simpa using he, hb, heq⟩
  · cases h
/-- Take number i first. -/
theorem wpAnyZ_take {i : Nat} {oi : Oper} {v : Value} {fuel : Nat} {listed : Array Bool} {a : Act} {w : World} (hi : ops[i]? = some oi)
    (hs : Region.noSelect ops = true) (hf : Region.free md ops listed i = true) (hr : (Region.ready md ops listed).contains i = true) (hz : waitsFor md ops z i = true)
    (hQ : ∀ c a w, Q (.panic c) (a.put oi.dst v) w → Q (.panic c) a w) (hy : YieldsIf P ops S oi v a) (hS : S w)
    (h : wpAnyZ P md ops Q z S fuel (listed.setIfInBounds i true) (a.put oi.dst v) w) : wpAnyZ P md ops Q z S (fuel + 1) listed a w :=
  wpAnyZ_first hi (Region.noSelect_spec hs) hQ (waitsFor_spec hz) fuel listed a w (Region.free_spec hi hf) (by simpa using hr) hy hS h
theorem wpAnyZ_all {rs : List Nat} {fuel : Nat} {listed : Array Bool} {a : Act} {w : World} (hr : Region.ready md ops listed = rs) (hne : rs ≠ [])
    (h : ∀ i ∈ rs, wpOp P ops Q i (fun a' w' => (i ≠ z → S w') ∧ wpAnyZ P md ops Q z S fuel (listed.setIfInBounds i true) a' w') a w) : wpAnyZ P md ops Q z S (fuel + 1) listed a w :=
  ⟨fun h0 => absurd (hr ▸ h0) hne, hr ▸ h⟩
theorem wpAnyZ_done {listed : Array Bool} {a : Act} {w : World} (hr : Region.ready md ops listed = []) (h : Q .normal a w) :
    ∀ fuel, wpAnyZ P md ops Q z S fuel listed a w
  | 0 => ⟨hr, h⟩
  | _ + 1 => ⟨fun _ => h, by rw [hr]; simp⟩
theorem wp_region_Z (z : Nat) {id : Nat} {a : Act} {w : World} (hm : P.follows .mixedOrders = true)
    (h : wpAnyZ P .any ops Q z S ops.size (Array.replicate ops.size false) a w.drew) : (Code.region id ops true).wp P Q a w :=
  wp_region_any hm (wpAny_of_Z _ _ _ _ h)
/-- One of those that may come up: not the last one; the last one. -/
theorem stepZ {fuel : Nat} {listed : Array Bool} {a : Act} {w : World} {i : Nat} {o : Oper} (ho : ops[i]? = some o)
    (h : ∀ K' : Act → World → Prop, (∀ a w, S w → wpAnyZ P md ops Q z S fuel (listed.setIfInBounds i true) a w → K' a w) → if Region.wanted o (yielded ops a.tmps) = true then Oper.wp P o a w K' Q else K' (a.put o.dst undef) w) :
    wpOp P ops Q i (fun a' w' => (i ≠ z → S w') ∧ wpAnyZ P md ops Q z S fuel (listed.setIfInBounds i true) a' w') a w :=
  wpOp_step ho fun K' hK => h K' fun a w hS hW => hK a w ⟨fun _ => hS, hW⟩
theorem stepZl {fuel : Nat} {listed : Array Bool} {a : Act} {w : World} {o : Oper} (ho : ops[z]? = some o)
    (h : ∀ K' : Act → World → Prop, (∀ a w, wpAnyZ P md ops Q z S fuel (listed.setIfInBounds z true) a w → K' a w) → if Region.wanted o (yielded ops a.tmps) = true then Oper.wp P o a w K' Q else K' (a.put o.dst undef) w) :
    wpOp P ops Q z (fun a' w' => (z ≠ z → S w') ∧ wpAnyZ P md ops Q z S fuel (listed.setIfInBounds z true) a' w') a w :=
  wpOp_step ho fun K' hK => h K' fun a w hW => hK a w ⟨fun h => absurd rfl h, hW⟩
end

open Go.RowKit
/-- append at a step of a region, what it leaves alone told whole. -/
theorem step_append_x {P : Program} {w : World} {ops : Array Oper} {o : Oper} {a : Act} {K : Act → World → Prop} {Q : Exit → Act → World → Prop} {E : Prop} (hgd : o.guard = none) (s x : Operand) (t : TypeId)
    (ho : o.op = .call { callee := .builtin .append, args := #[s, x], argTypes := #[t, t] })
    (base : Nat) (e : TypeId) (z : Value) (size bytes : Nat) (ht : P.underlying t = some (.slice e)) (hinfo : (P.info? e).map (fun i => (i.zero, i.size, i.bytes)) = some (some z, size, bytes)) (hzs : z.cells.size = size) (hsz0 : 0 < size)
    (v : Value) (n : Nat) (xs : List Value) (hs : a.eval s = v) (hown : w.ownsRow base e size v n xs)
    (b off m c : Nat) (news : List Value) (hx : a.eval x = .slice (some ⟨b, off, none⟩) m c) (hr : Has w (some ⟨b, off, none⟩) news) (hm : news.length = m * size) (h1 : ∀ u ∈ news, u.oneCell' = true)
    (h63 : n + m ≤ maxLen) (hbytes : (n + m) * bytes ≤ 140737488355328) (hbase : base ≤ w.heap.size)
    (h : ∀ A' c' w', w'.ownsRow base e size (.slice A' (n + m) c') (n + m) (xs ++ news) → w.grownBy w' v.ownBlock → Below base w w' → ((Value.slice A' (n + m) c').ownBlock = v.ownBlock ∨ (Value.slice A' (n + m) c').ownBlock = some w.heap.size) → (A' = none → c' = 0) → K (a.put o.dst (.slice A' (n + m) c')) w') :
    if Region.wanted o (yielded ops a.tmps) = true then Oper.wp P o a w K Q else E := by
  have hw : Region.wanted o (yielded ops a.tmps) = true := by simp [Region.wanted, hgd]
  rw [if_pos hw]
  obtain ⟨i, hi, hz, hsz, hby⟩ := info_parts hinfo
  have hcells : ∀ j u, news[j]? = some u → w.cell? ((⟨b, off, none⟩ : Addr).add j) = some u := by
    intro j u hu
    rcases hr with h | ⟨b', off', h, _, hc⟩
    · subst h; simp at hu
    · injection h with h
      injection h with h1 h2
      subst h1 h2
      rw [add_plain]
      exact hc j u hu
  obtain ⟨v', w', hrun, h2, h3, _, hat⟩ := run_append_own_at (P := P) w base t o.type e i z size bytes ht hi hz hsz hby hzs hsz0 v n xs hown ⟨b, off, none⟩ m c news hm hcells h1 h63 hbytes hbase
  obtain ⟨A', c', hv, hc'⟩ := ownG_shape h2
  subst hv
  unfold Oper.wp execOp
  simp only [ho, resolve, invoke, builtin, Sem.run_bind, Sem.run_pure, Result.andThen_ok, List.map_toArray, List.map_cons, List.map_nil, hs, hx, hrun]
  exact h A' c' w' h2 h3 ((Below.refl _ _).grown h3 hbase fun k hk => (hown.lt k hk).1) hat hc'
end Go.Proofs.YtklohbglkbhjhaaDoor

/- Cells of values in a block that may be written; what lies in old blocks; a turn of a list. -/


namespace Go.Proofs.YtklohbglkbhjhaaDoor
open Go.RowKit
set_option linter.unusedVariables false

def encV (x : Val3) : List Value := [.int .i64 x.1, .int .i64 x.2.1, .string x.2.2]
theorem encV_len (x : Val3) : (encV x).length = 3 := rfl
def Cells3 (w : World) (g : Nat) (d : List Val3) : Prop := g < w.heap.size ∧ ∀ j v, (fl d)[j]? = some v → w.cell? ⟨g, j, none⟩ = some v ∧ w.frozen? ⟨g, j, none⟩ = false
theorem Cells3.has {w : World} {g : Nat} {d : List Val3} (h : Cells3 w g d) : Has w (some ⟨g, 0, none⟩) (fl d) := .inr ⟨g, 0, rfl, h.1, fun k v hv => by rw [Nat.zero_add]; exact (h.2 k v hv).1⟩
theorem Cells3.get {w : World} {g : Nat} {d : List Val3} (h : Cells3 w g d) (k : Nat) (hk : k < d.length) :
    w.cell? ⟨g, k * 3, none⟩ = some (.int .i64 d[k].1) ∧ w.cell? ⟨g, k * 3 + 1, none⟩ = some (.int .i64 d[k].2.1) ∧ w.cell? ⟨g, k * 3 + 2, none⟩ = some (.string d[k].2.2) ∧ w.frozen? ⟨g, k * 3, none⟩ = false ∧ w.frozen? ⟨g, k * 3 + 1, none⟩ = false ∧ w.frozen? ⟨g, k * 3 + 2, none⟩ = false := by
  obtain ⟨h0, h1, h2⟩ := fl_get d k hk
  exact ⟨(h.2 _ _ h0).1, (h.2 _ _ h1).1, (h.2 _ _ h2).1, (h.2 _ _ h0).2, (h.2 _ _ h1).2, (h.2 _ _ h2).2⟩
theorem Cells3.later {w w' : World} {g : Nat} {d : List Val3} (h : Cells3 w g d) (l : Later w w') : Cells3 w' g d := by
  refine ⟨Nat.lt_of_lt_of_le h.1 l.size, fun j v hv => ?_⟩
  obtain ⟨h1, h2⟩ := h.2 j v hv
  refine ⟨l.cell h1, ?_⟩
  have e := Below.block l g h.1
  unfold World.frozen? at h2 ⊢
  rw [e]
  exact h2
/-- A literal of no elements. -/
theorem own_empty (w : World) (base : Nat) (e : TypeId) (size : Nat) (hb : base ≤ w.heap.size) : (w.alloc (.cells #[] e)).ownsRow base e size (.slice (some ⟨w.heap.size, 0, none⟩) 0 0) 0 [] :=
  ⟨by simp, .inr ⟨w.heap.size, 0, #[], rfl, hb, heap_alloc_new w _, Nat.le_refl _, Nat.zero_le _, by simp, by simp⟩⟩

theorem own_some {w : World} {base : Nat} {e : TypeId} {size n c : Nat} {A : Option Addr} {xs : List Value} (h : w.ownsRow base e size (.slice A n c) n xs) (hn : 0 < n) : ∃ g, A = some ⟨g, 0, none⟩ := by
  rcases h.2 with ⟨_, h0⟩ | ⟨g, cap, cur, hv, _⟩
  · omega
  · injection hv with e1 e2 e3; exact ⟨g, e1⟩
end Go.Proofs.YtklohbglkbhjhaaDoor

/- append at a step of a region, of a slice that may be nothing. -/

namespace Go.Proofs.YtklohbglkbhjhaaDoor
open Go.RowKit
set_option linter.unusedVariables false

theorem step_append_n {P : Program} {w : World} {ops : Array Oper} {o : Oper} {a : Act} {K : Act → World → Prop} {Q : Exit → Act → World → Prop} {E : Prop} (hgd : o.guard = none) (s x : Operand) (t : TypeId)
    (ho : o.op = .call { callee := .builtin .append, args := #[s, x], argTypes := #[t, t] })
    (base : Nat) (e : TypeId) (z : Value) (size bytes : Nat) (ht : P.underlying t = some (.slice e)) (hinfo : (P.info? e).map (fun i => (i.zero, i.size, i.bytes)) = some (some z, size, bytes)) (hzs : z.cells.size = size) (hsz0 : 0 < size)
    (v : Value) (n : Nat) (xs : List Value) (hs : a.eval s = v) (hown : w.ownsRow base e size v n xs)
    (A : Option Addr) (m c : Nat) (news : List Value) (hx : a.eval x = .slice A m c) (hr : Has w A news) (hm : news.length = m * size) (hnil : A = none → c = 0) (h1 : ∀ u ∈ news, u.oneCell' = true)
    (h63 : n + m ≤ maxLen) (hbytes : (n + m) * bytes ≤ 140737488355328) (hbase : base ≤ w.heap.size)
    (h : ∀ A' c' w', w'.ownsRow base e size (.slice A' (n + m) c') (n + m) (xs ++ news) → w.grownBy w' v.ownBlock → Below base w w' → (A' = none → c' = 0) → K (a.put o.dst (.slice A' (n + m) c')) w') :
    if Region.wanted o (yielded ops a.tmps) = true then Oper.wp P o a w K Q else E := by
  have hw : Region.wanted o (yielded ops a.tmps) = true := by simp [Region.wanted, hgd]
  rcases A with _ | ad
  · have hn : news = [] := by
      rcases hr with h | ⟨b, off, h, _⟩
      · exact h
      · cases h
    subst hn
    have hm0 : m = 0 := by
      rcases Nat.eq_zero_or_pos m with h | h
      · exact h
      · have := Nat.mul_pos h hsz0
        rw [← hm] at this
        simp at this
    subst hm0
    have hc0 := hnil rfl
    subst hc0
    obtain ⟨A', c', hv, hc'⟩ := ownG_shape hown
    subst hv
    rw [if_pos hw]
    obtain ⟨i, hi, hz, hsz, hby⟩ := info_parts hinfo
    have hrun := run_append_owned_none (P := P) (w := w) base t o.type e i size ht hi _ n xs hown
    unfold Oper.wp execOp
    simp only [ho, resolve, invoke, builtin, Sem.run_bind, Sem.run_pure, Result.andThen_ok, List.map_toArray, List.map_cons, List.map_nil, hs, hx, hrun]
    exact h A' c' w (by simpa using hown) (World.grownBy.refl _ _) (Below.refl _ _) hc'
  · rcases hr with h0 | ⟨b, off, e1, hb, hc⟩
    · subst h0
      rw [if_pos hw]
      obtain ⟨i, hi, hz, hsz, hby⟩ := info_parts hinfo
      obtain ⟨v', w', hrun, h2, h3, _, hat⟩ := run_append_own_at (P := P) w base t o.type e i z size bytes ht hi hz hsz hby hzs hsz0 v n xs hown ad m c [] hm (fun j u hu => by simp at hu) h1 h63 hbytes hbase
      obtain ⟨A', c', hv, hc'⟩ := ownG_shape h2
      subst hv
      unfold Oper.wp execOp
      simp only [ho, resolve, invoke, builtin, Sem.run_bind, Sem.run_pure, Result.andThen_ok, List.map_toArray, List.map_cons, List.map_nil, hs, hx, hrun]
      exact h A' c' w' h2 h3 ((Below.refl _ _).grown h3 hbase fun k hk => (hown.lt k hk).1) hc'
    · injection e1 with e1
      subst e1
      exact step_append_x hgd s x t ho base e z size bytes ht hinfo hzs hsz0 v n xs hs hown b off m c news hx (.inr ⟨b, off, rfl, hb, hc⟩) hm h1 h63 hbytes hbase fun A' c' w' h2 h3 h4 _ h6 => h A' c' w' h2 h3 h4 h6
end Go.Proofs.YtklohbglkbhjhaaDoor

/- A region that draws its order: a call that tells the same in every later world may be taken first (the world may move on behind every operation). -/


namespace Go.Proofs.YtklohbglkbhjhaaDoor
open Go
set_option linter.unusedVariables false

section
variable {P : Program} {ops : Array Oper} {Q : Exit → Act → World → Prop} {md : Region.Mode} {S : World → Prop} {R : World → World → Prop}

/-- Whatever order is picked from here on, and wherever the world has moved on to behind every operation. -/
def wpAnyK (P : Program) (md : Region.Mode) (ops : Array Oper) (Q : Exit → Act → World → Prop) (S : World → Prop) (R : World → World → Prop) : Nat → Array Bool → Act → World → Prop
  | 0, listed, a, w => Region.ready md ops listed = [] ∧ Q .normal a w
  | fuel + 1, listed, a, w =>
    (Region.ready md ops listed = [] → Q .normal a w) ∧
    ∀ i ∈ Region.ready md ops listed, wpOp P ops Q i (fun a' w' => S w' ∧ ∀ w'', R w' w'' → wpAnyK P md ops Q S R fuel (listed.setIfInBounds i true) a' w'') a w

theorem wpAny_of_K (hr : ∀ w, R w w) : ∀ (fuel : Nat) (listed : Array Bool) (a : Act) (w : World), wpAnyK P md ops Q S R fuel listed a w → wpAny P md ops Q fuel listed a w
  | 0, _, _, _, h => h
  | fuel + 1, _, _, _, h => ⟨h.1, fun i hi => wpOp_mono (fun a' w' h' => wpAny_of_K hr fuel _ a' w' (h'.2 w' (hr w'))) (h.2 i hi)⟩

/-- In state 'a', in every world that meets S, operation 'o' calls a function that tells 'v' and leaves all as it was, but for new memory. -/
def YieldsC (P : Program) (ops : Array Oper) (S : World → Prop) (R : World → World → Prop) (o : Oper) (v : Value) (a : Act) : Prop :=
  Region.wanted o (yielded ops a.tmps) = true ∧ ∃ f args, ∀ w, S w → (execOp a.eval o).run P w = .ok (.enter f args) w ∧ Calls P f args w fun e w' => e = .returned v ∧ R w w'
/-- It yields quietly, or by such a call. -/
def YieldsE (P : Program) (ops : Array Oper) (S : World → Prop) (R : World → World → Prop) (o : Oper) (v : Value) (a : Act) : Prop := YieldsIf P ops S o v a ∨ YieldsC P ops S R o v a

theorem YieldsE.of_same {o : Oper} {v : Value} {a a' : Act} (hy : YieldsE P ops S R o v a) (he : execOp a'.eval o = execOp a.eval o)
    (hw : Region.wanted o (yielded ops a'.tmps) = Region.wanted o (yielded ops a.tmps)) : YieldsE P ops S R o v a' := by
  rcases hy with hy | hy
  · exact .inl (hy.of_same he hw)
  · refine .inr ?_
    unfold YieldsC at *
    rw [he, hw]
    exact hy
theorem YieldsE.wpOp (hr : ∀ w, R w w) {i : Nat} {o : Oper} {v : Value} {a : Act} (hi : ops[i]? = some o) (hy : YieldsE P ops S R o v a)
    {K : Act → World → Prop} {w : World} (hS : S w) (h : ∀ w', R w w' → K (a.put o.dst v) w') : Go.wpOp P ops Q i K a w := by
  rcases hy with hy | ⟨hw, f, args, hv⟩
  · exact hy.wpOp hi hS (h w (hr w))
  · unfold Go.wpOp
    obtain ⟨h1, h2⟩ := hv w hS
    simp only [hi, hw, if_true, Oper.wp, h1, Oper.upon]
    refine .inl (Calls.mono h2 fun e w'' he => ?_)
    obtain ⟨rfl, hR⟩ := he
    exact h w'' hR
theorem wpOp_putE {j : Nat} {oi oj : Oper} {v : Value} (hj : ops[j]? = some oj) (hap : oi.apart ops oj = true)
    (hsi : ∀ cs b, oi.op ≠ .select cs b) (hsj : ∀ cs b, oj.op ≠ .select cs b)
    (hQ : ∀ c a w, Q (.panic c) (a.put oi.dst v) w → Q (.panic c) a w) {K : Act → World → Prop} {a : Act} {w : World}
    (hy : YieldsE P ops S R oi v a) (h : wpOp P ops Q j K (a.put oi.dst v) w) :
    wpOp P ops Q j (fun a' w' => YieldsE P ops S R oi v a' ∧ K (a'.put oi.dst v) w') a w := by
  obtain ⟨h1, h2, h3⟩ := Oper.apart_spec hap
  have keep : ∀ (a : Act), YieldsE P ops S R oi v a → ∀ u, YieldsE P ops S R oi v (a.put oj.dst u) := fun a hy u =>
    hy.of_same (execOp_put oi hsi a oj.dst u h3) (wanted_put oi a oj.dst u h3)
  have keepD : ∀ d, YieldsE P ops S R oi v { a with defers := d :: a.defers } := fun d => hy.of_same rfl rfl
  unfold wpOp at *
  simp only [hj] at *
  rw [wanted_put oj a oi.dst v h1] at h
  split
  · rename_i hw
    simp only [hw, if_true] at h
    rcases h with h | ⟨hasks, hlets⟩
    case inr => exact .inr ⟨by unfold Oper.asks at *; rw [execOp_put oj hsj a oi.dst v h1] at hasks; exact hasks, hlets⟩
    refine .inl ?_
    unfold Oper.wp at *
    rw [execOp_put oj hsj a oi.dst v h1] at h
    generalize (execOp a.eval oj).run P w = r at *
    cases r with
    | ok n w' =>
      cases n <;> simp only [Oper.upon] at h ⊢
      case value u => exact ⟨keep a hy u, by rw [← Act.put_comm a v u h2]; exact h⟩
      case skip => exact ⟨keep a hy _, by rw [← Act.put_comm a v undef h2]; exact h⟩
      case defer d =>
        refine ⟨keep _ (keepD d) _, ?_⟩
        rw [← Act.put_comm _ v undef h2, ← Act.put_defers]
        exact h
      case enter f args =>
        refine Calls.mono h fun e w'' he => ?_
        cases e with
        | returned u => exact ⟨keep a hy u, by rw [← Act.put_comm a v u h2]; exact he⟩
        | panicked c => exact hQ _ _ _ he
        | outgrown => exact he
      case row row args => exact Rows.mono h fun u w'' he => ⟨keep a hy u, by rw [← Act.put_comm a v u h2]; exact he⟩
    | halt x w' =>
      cases x <;> simp only [Oper.upon] at h ⊢
      case panic u => exact hQ _ _ _ h
  · rename_i hw
    simp only [hw] at h
    exact ⟨keep a hy _, by rw [← Act.put_comm a v undef h2]; exact h⟩

theorem wpAnyK_first (hrf : ∀ w, R w w) (hrt : ∀ a b c, R a b → R b c → R a c) (hSR : ∀ w w', S w → R w w' → S w') {i : Nat} {oi : Oper} {v : Value} (hi : ops[i]? = some oi) (hsel : ∀ (j : Nat) (o : Oper) cs b, ops[j]? = some o → o.op ≠ .select cs b)
    (hQ : ∀ c a w, Q (.panic c) (a.put oi.dst v) w → Q (.panic c) a w) :
    ∀ (fuel : Nat) (listed : Array Bool) (a : Act) (w : World),
      (∀ j oj, ops[j]? = some oj → j ≠ i → listed.getD j true = false → (∀ e ∈ oj.after, Region.binds md e = true → e.on ≠ i) → oi.apart ops oj = true) →
      i ∈ Region.ready md ops listed → YieldsE P ops S R oi v a → S w →
      (∀ w', R w w' → wpAnyK P md ops Q S R fuel (listed.setIfInBounds i true) (a.put oi.dst v) w') → wpAnyK P md ops Q S R (fuel + 1) listed a w := by
  intro fuel
  induction fuel with
  | zero =>
    intro listed a w _ hr hy hS H
    refine ⟨fun h => (by rw [h] at hr; cases hr), fun j hj => ?_⟩
    by_cases hji : j = i
    · subst hji; exact hy.wpOp hrf hi hS fun w' hw' => ⟨hSR w w' hS hw', fun w'' h'' => H w'' (hrt _ _ _ hw' h'')⟩
    · have := ready_mono hj hji
      rw [(H w (hrf w)).1] at this
      cases this
  | succ fuel ih =>
    intro listed a w hfree hr hy hS H
    refine ⟨fun h => (by rw [h] at hr; cases hr), fun j hj => ?_⟩
    by_cases hji : j = i
    · subst hji; exact hy.wpOp hrf hi hS fun w' hw' => ⟨hSR w w' hS hw', fun w'' h'' => H w'' (hrt _ _ _ hw' h'')⟩
    · have h1 := (H w (hrf w)).2 j (ready_mono hj hji)
      obtain ⟨hjun, oj, hoj, hall⟩ := mem_ready.1 hj
      have hnot : ∀ e ∈ oj.after, Region.binds md e = true → e.on ≠ i := fun e he hb heq => by
        have h1 := hall e he hb
        have h0 := (mem_ready.1 hr).1
        rw [heq] at h1
        rcases Nat.lt_or_ge i listed.size with h' | h'
        · simp [h'] at h0 h1; rw [h0] at h1; cases h1
        · simp [Array.getElem?_eq_none h'] at h1
      have h2 := wpOp_putE hoj (hfree j oj hoj hji hjun hnot) (fun cs b => hsel i oi cs b hi) (fun cs b => hsel j oj cs b hoj) hQ hy h1
      have hfree' : ∀ k ok, ops[k]? = some ok → k ≠ i → (listed.setIfInBounds j true).getD k true = false →
          (∀ e ∈ ok.after, Region.binds md e = true → e.on ≠ i) → oi.apart ops ok = true := fun k ok hk hki hun hno => by
        refine hfree k ok hk hki ?_ hno
        by_cases hjk : j = k
        · subst hjk; exact hjun
        · rw [getD_set_ne true hjk] at hun; exact hun
      refine wpOp_mono (fun a' w' h3 => ⟨h3.2.1, fun w'' hR => ih (listed.setIfInBounds j true) a' w'' hfree' (ready_mono hr (Ne.symm hji)) h3.1 (hSR _ _ h3.2.1 hR) fun w3 hR3 => ?_⟩) h2
      rw [Array.setIfInBounds_comm _ _ hji]
      exact h3.2.2 w3 (hrt _ _ _ hR hR3)

/-- Take number 'i' first. -/
theorem wpAnyK_take (hrf : ∀ w, R w w) (hrt : ∀ a b c, R a b → R b c → R a c) (hSR : ∀ w w', S w → R w w' → S w') {i : Nat} {oi : Oper} {v : Value} {fuel : Nat} {listed : Array Bool} {a : Act} {w : World} (hi : ops[i]? = some oi)
    (hs : Region.noSelect ops = true) (hf : Region.free md ops listed i = true) (hr : (Region.ready md ops listed).contains i = true)
    (hQ : ∀ c a w, Q (.panic c) (a.put oi.dst v) w → Q (.panic c) a w) (hy : YieldsE P ops S R oi v a) (hS : S w)
    (h : ∀ w', R w w' → wpAnyK P md ops Q S R fuel (listed.setIfInBounds i true) (a.put oi.dst v) w') : wpAnyK P md ops Q S R (fuel + 1) listed a w :=
  wpAnyK_first hrf hrt hSR hi (Region.noSelect_spec hs) hQ fuel listed a w (Region.free_spec hi hf) (by simpa using hr) hy hS h
theorem wpAnyK_all {rs : List Nat} {fuel : Nat} {listed : Array Bool} {a : Act} {w : World} (hr : Region.ready md ops listed = rs) (hne : rs ≠ [])
    (h : ∀ i ∈ rs, wpOp P ops Q i (fun a' w' => S w' ∧ ∀ w'', R w' w'' → wpAnyK P md ops Q S R fuel (listed.setIfInBounds i true) a' w'') a w) : wpAnyK P md ops Q S R (fuel + 1) listed a w :=
  ⟨fun h0 => absurd (hr ▸ h0) hne, hr ▸ h⟩
theorem wpAnyK_done {listed : Array Bool} {a : Act} {w : World} (hr : Region.ready md ops listed = []) (h : Q .normal a w) :
    ∀ fuel, wpAnyK P md ops Q S R fuel listed a w
  | 0 => ⟨hr, h⟩
  | _ + 1 => ⟨fun _ => h, by rw [hr]; simp⟩
theorem wp_region_K (hrf : ∀ w, R w w) {id : Nat} {a : Act} {w : World} (hm : P.follows .mixedOrders = true)
    (h : wpAnyK P .any ops Q S R ops.size (Array.replicate ops.size false) a w.drew) : (Code.region id ops true).wp P Q a w :=
  wp_region_any hm (wpAny_of_K hrf _ _ _ _ h)
/-- One of those that may come up. -/
theorem stepK {fuel : Nat} {listed : Array Bool} {a : Act} {w : World} {i : Nat} {o : Oper} (ho : ops[i]? = some o)
    (h : ∀ K' : Act → World → Prop, (∀ a w, S w → (∀ w', R w w' → wpAnyK P md ops Q S R fuel (listed.setIfInBounds i true) a w') → K' a w) → if Region.wanted o (yielded ops a.tmps) = true then Oper.wp P o a w K' Q else K' (a.put o.dst undef) w) :
    wpOp P ops Q i (fun a' w' => S w' ∧ ∀ w'', R w' w'' → wpAnyK P md ops Q S R fuel (listed.setIfInBounds i true) a' w'') a w :=
  wpOp_step ho fun K' hK => h K' fun a w hS hW => hK a w ⟨hS, hW⟩
end
end Go.Proofs.YtklohbglkbhjhaaDoor

/- slices.Clone, Delete (of one), Insert (of one) at rows of values. -/



namespace Go.Proofs.YtklohbglkbhjhaaDoor
open Go.RowKit
set_option linter.unusedVariables false

/-- A list with some of its elements written over. -/
def setL (xs : List Value) : Nat → List Value → List Value
  | _, [] => xs
  | o, v :: r => setL (xs.set o v) (o + 1) r
theorem setL_len : ∀ (vs : List Value) (o : Nat) (xs : List Value), (setL xs o vs).length = xs.length
  | [], _, _ => rfl
  | v :: r, o, xs => by unfold setL; rw [setL_len r]; exact List.length_set
theorem setL_eq : ∀ (vs : List Value) (o : Nat) (xs : List Value), o + vs.length ≤ xs.length → setL xs o vs = xs.take o ++ vs ++ xs.drop (o + vs.length)
  | [], o, xs, _ => by simp [setL]
  | v :: r, o, xs, h => by
    unfold setL
    simp only [List.length_cons] at h
    rw [setL_eq r (o + 1) _ (by rw [List.length_set]; omega)]
    have h1 : (xs.set o v).take (o + 1) = xs.take o ++ [v] := by
      rw [List.take_succ_eq_append_getElem (by rw [List.length_set]; omega), List.getElem_set_self, List.take_set_of_le (Nat.le_refl _)]
    have h2 : (xs.set o v).drop (o + 1 + r.length) = xs.drop (o + 1 + r.length) := List.drop_set_of_lt (by omega)
    rw [h1, h2, List.length_cons, List.append_assoc, List.append_assoc, show o + (r.length + 1) = o + 1 + r.length by omega]
    simp
theorem own_setCells {base : Nat} {e : TypeId} {size g n cap : Nat} : ∀ (vs : List Value) (o : Nat) (xs : List Value) (w : World), w.ownsRow base e size (.slice (some ⟨g, 0, none⟩) n cap) n xs →
    (w.setCells g o vs).ownsRow base e size (.slice (some ⟨g, 0, none⟩) n cap) n (setL xs o vs) ∧ w.grownBy (w.setCells g o vs) (some g)
  | [], _, _, w, h => ⟨h, World.grownBy.refl _ _⟩
  | v :: r, o, xs, w, h => by
    obtain ⟨h1, h2⟩ := h.stored o v
    obtain ⟨h3, h4⟩ := own_setCells r (o + 1) (xs.set o v) _ h1
    exact ⟨h3, only_trans h2 h4⟩
/-- A row cut short. -/
theorem own_cut {w : World} {base : Nat} {e : TypeId} {size n m cap : Nat} {A : Option Addr} {xs : List Value} (h : w.ownsRow base e size (.slice A n cap) n xs) (hm : m ≤ n) : w.ownsRow base e size (.slice A m cap) m (xs.take (m * size)) := by
  obtain ⟨h1, h2⟩ := h
  have hms : m * size ≤ n * size := Nat.mul_le_mul_right _ hm
  refine ⟨by rw [List.length_take]; omega, ?_⟩
  rcases h2 with ⟨hv, h0⟩ | ⟨g, c, cur, hv, hb, hg, hnc, hcm, hcs, ht⟩
  · injection hv with e1 e2 e3
    subst e1 e2 e3
    have : m = 0 := by omega
    subst this
    exact .inl ⟨rfl, rfl⟩
  · injection hv with e1 e2 e3
    subst e1 e3
    refine .inr ⟨g, cap, cur, rfl, hb, hg, by omega, hcm, hcs, ?_⟩
    rw [← ht, List.take_take, Nat.min_eq_left hms]
/-- The values of one row without the i-th. -/
theorem fl_del (l : List Val3) (i : Nat) (hi : i < l.length) (z : List Value) (hz : z.length = 3) :
    (setL (setL (fl l) (i * 3) (fl (l.drop (i + 1)))) ((l.length - 1) * 3) z).take ((l.length - 1) * 3) = fl (l.eraseIdx i) := by
  have hl : (fl l).length = l.length * 3 := fl_length l
  have hd : (fl (l.drop (i + 1))).length = (l.length - (i + 1)) * 3 := by rw [fl_length, List.length_drop]
  rw [setL_eq z _ _ (by rw [setL_len, hl, hz]; omega), setL_eq _ _ _ (by rw [hl, hd]; omega)]
  rw [List.append_assoc, List.take_left' (by rw [List.length_take, List.length_append, List.length_append, List.length_take, List.length_drop, hl, hd]; omega)]
  rw [List.take_append_of_le_length (by rw [List.length_append, List.length_take, hl, hd]; omega), List.take_of_length_le (by rw [List.length_append, List.length_take, hl, hd]; omega)]
  rw [List.eraseIdx_eq_take_drop_succ, fl_append, fl_take]
theorem run_clear1 {P : Program} (w : World) (t e ty : TypeId) (z : Value) (ht : P.underlying t = some (.slice e)) (hv : ∀ w, (zeroValue e).run P w = .ok z w) (zs : List Value) (hz : z.cells = zs.toArray) (h1 : ∀ v ∈ zs, v.oneCell' = true) (b o c : Nat)
    (hc : ∀ j, j < zs.length → (w.cell? ⟨b, o + j, none⟩).isSome = true) (hf : ∀ j, j < zs.length → w.frozen? ⟨b, o + j, none⟩ = false) :
    (Builtin.clear_ #[t] ty #[.slice (some ⟨b, o, none⟩) 1 c]).run P w = .ok (.tuple #[]) (w.setCells b o zs) := by
  have hzc : (Builtin.zeroCells z.cells 1).toList = zs := by
    rw [hz]
    simp [Builtin.zeroCells]
    apply List.ext_getElem
    · simp
    · intro i h1 h2
      have : i < zs.length := h2
      simp [Nat.mod_eq_of_lt this, List.getElem?_eq_getElem this]
  have hst := run_storeCells_cells (P := P) b o zs 0 w (by simpa using hc) (by simpa using hf) h1
  simp only [Nat.add_zero] at hst
  simp [Builtin.clear_, run_underlying ht, hv, hzc, hst]

/-- What Clone gives. -/
def CloneP (xs : List Val3) (w : World) (e : Ending) (w' : World) : Prop :=
  ∃ A c, e = .returned (.slice A xs.length c) ∧ w'.ownsRow w.heap.size 29 3 (.slice A xs.length c) xs.length (fl xs) ∧ (A = none → c = 0) ∧ Later w w'

set_option maxRecDepth 100000 in
theorem clone_any (A : Option Addr) (n c : Nat) (xs : List Val3) (w : World) (hn : n = xs.length) (hl : n ≤ 1000) (hr : Has w A (fl xs)) (hnil : A = none → c = 0) :
    Calls Tryd.prog 69 #[.slice A n c] w (CloneP xs w) := by
  rcases A with _ | a
  · have hx : xs = [] := by
      rcases hr with h | ⟨b, off, h, _⟩
      · have := fl_length xs; rw [h] at this; simp at this; exact List.eq_nil_of_length_eq_zero (by omega)
      · cases h
    subst hx
    have hn0 : n = 0 := hn
    subst hn0
    have hc0 := hnil rfl
    subst hc0
    have heq := Lib.run_eql_slice_nil (P := Tryd.prog) w 33 29 none 0 0 0 0 Tryd.underlying33
    clear hr hnil hl hn
    go_enter Tryd.func69, Tryd.ntmps69
    go_wp2_with fail
    go_ret
    exact ⟨none, 0, rfl, World.ownsRow_nil _ _ _ _, fun _ => rfl, Later.refl _⟩
  · have HO := Lib.hid (own_empty w w.heap.size 29 3 (Nat.le_refl _))
    have HR := Lib.hid (hr.later (Later.new w (.cells #[] 29)))
    have HM := Lib.hid (show (fl xs).length = n * 3 by rw [fl_length, hn])
    have HN := Lib.hid hn
    have HL := Lib.hid (Later.new w (.cells #[] 29))
    have heq := Lib.run_eql_slice_nil (P := Tryd.prog) w 33 29 (some a) n c 0 0 Tryd.underlying33
    clear hr hn hnil
    go_enter Tryd.func69, Tryd.ntmps69
    go_wp2_with (at_builtin; go_loud (refine wpList_append_g _ rfl (.tmp 5) (.tmp 6) 33 rfl w.heap.size 29 _ 3 32 Tryd.underlying33 info_v rfl (by decide) _ 0 [] rfl HO.out (some a) n c (fl xs) rfl HR.out HM.out (by intro h; cases h) (fl_one _) (by unfold maxLen; omega) (by omega) (by simp) ?_; intro A2 c2 w6 o2 g2 b2 n2; simp only [Nat.zero_add, List.nil_append] at o2; have HO2 := Lib.hid o2; have HL6 := Lib.hid (Later.of (HL.out.below.trans b2)); have HN2 := Lib.hid n2; clear o2 g2 b2 n2))
    all_goals (try go_wp2_with fail)
    go_ret
    rw [HN.out] at HO2
    exact ⟨A2, c2, by rw [← HN.out]; rfl, HO2.out, HN2.out, HL6.out⟩

theorem own_capG {w : World} {base : Nat} {e : TypeId} {size n cap g : Nat} {xs : List Value} (h : w.ownsRow base e size (.slice (some ⟨g, 0, none⟩) n cap) n xs) : n ≤ cap ∧ cap ≤ maxLen ∧ base ≤ g ∧ g < w.heap.size ∧ ∀ j, j < cap * size → (w.cell? ⟨g, j, none⟩).isSome = true := by
  have hlt := h.lt g rfl
  rcases h.2 with ⟨hv, _⟩ | ⟨g', c, cur, hv, hb, hg, hnc, hcm, hcs, ht⟩
  · cases hv
  · injection hv with e1 e2 e3
    injection e1 with e1
    injection e1 with e1
    subst e1 e3
    refine ⟨hnc, hcm, hlt.1, hlt.2, fun j hj => ?_⟩
    rw [cell_of_row w g j cur e (0, 0) hg, Array.getElem?_eq_getElem (by omega)]; rfl

set_option maxRecDepth 100000 in
set_option maxHeartbeats 2000000 in
theorem delete1_any (base g n c i : Nat) (xs : List Val3) (w : World) (ho : w.ownsRow base 29 3 (.slice (some ⟨g, 0, none⟩) n c) n (fl xs)) (hn : n = xs.length) (hi : i < n) (hl : n ≤ 1000) :
    Calls Tryd.prog 70 #[.slice (some ⟨g, 0, none⟩) n c, .int .i64 i, .int .i64 ((i : Int) + 1)] w
      fun e w' => e = .returned (.slice (some ⟨g, 0, none⟩) (n - 1) c) ∧ w'.ownsRow base 29 3 (.slice (some ⟨g, 0, none⟩) (n - 1) c) (n - 1) (fl (xs.eraseIdx i)) ∧ w.grownBy w' (some g) := by
  obtain ⟨hnc, hcm, hbg, hgl, hcell⟩ := own_capG ho
  have hm : c ≤ 9223372036854775807 := by unfold maxLen at hcm; omega
  obtain ⟨i0, hi0, hz0, hz1, hz2⟩ := info_parts info_v
  obtain ⟨news, hnews⟩ : ∃ news, news = fl (xs.drop (i + 1)) := ⟨_, rfl⟩
  have hlen : news.length = (n - (i + 1)) * 3 := by rw [hnews, fl_length, List.length_drop, hn]
  obtain ⟨A, hA, hsrc⟩ : ∃ A : Addr, (if c = i + 1 then (some ⟨g, 0, none⟩ : Option Addr) else some ⟨g, (i + 1) * 3, none⟩) = some A ∧ Hid (∀ t u, news[t]? = some u → w.drew.cell? (A.add t) = some u) := by
    by_cases h : c = i + 1
    · refine ⟨⟨g, 0, none⟩, by rw [if_pos h], fun t u hu => ?_⟩
      have h0 : news.length = 0 := by rw [hlen]; omega
      rw [List.length_eq_zero_iff.1 h0] at hu
      simp at hu
    · refine ⟨⟨g, (i + 1) * 3, none⟩, by rw [if_neg h], fun t u hu => ?_⟩
      have ht : t < (n - (i + 1)) * 3 := by
        have := (List.getElem?_eq_some_iff.1 hu).1
        rwa [hlen] at this
      rw [add_plain]
      have h2 := ho.cellAt ((i + 1) * 3 + t) (by omega)
      show w.cell? _ = _
      rw [h2, ← hu, hnews, fl_drop, List.getElem?_drop]
  have s1 : Hid (news.length = (n - (i + 1)) * 3) := hlen
  have s2 : Hid (∀ u ∈ news, u.oneCell' = true) := by rw [hnews]; exact fl_one _
  have s3 : Hid (∀ t, t < news.length → (w.drew.cell? ⟨g, 0 + i * 3 + t, none⟩).isSome = true ∧ w.drew.frozen? ⟨g, 0 + i * 3 + t, none⟩ = false) := by
    intro t ht
    rw [hlen] at ht
    exact ⟨hcell _ (by omega), ho.frozenAt _⟩
  obtain ⟨W1, hW1⟩ : ∃ W1, W1 = w.drew.setCells g (0 + i * 3) news := ⟨_, rfl⟩
  obtain ⟨o1, g1⟩ := own_setCells (size := 3) news (i * 3) (fl xs) w.drew ho
  rw [← Nat.zero_add (i * 3), ← hW1] at o1 g1
  have O1 := Lib.hid o1
  have hcl : ∀ ty, (Builtin.clear_ #[33] ty #[.slice (some ⟨g, (i + (n - (i + 1))) * 3, none⟩) 1 (c - (i + (n - (i + 1))))]).run Tryd.prog W1 = .ok (.tuple #[]) (W1.setCells g ((i + (n - (i + 1))) * 3) [.int .i64 0, .int .i64 0, .string ⟨#[]⟩]) := fun ty =>
    run_clear1 (P := Tryd.prog) W1 33 29 ty (vagg 0 0 ⟨#[]⟩) Tryd.underlying33 Tryd.zeroValue29 [.int .i64 0, .int .i64 0, .string ⟨#[]⟩] rfl (by simp [Value.oneCell']) g _ _
      (fun j hj => by
        have := (own_capG O1.out).2.2.2.2 ((i + (n - (i + 1))) * 3 + j) (by simp at hj; omega)
        exact this)
      (fun j hj => O1.out.frozenAt _)
  have hW : Hid (W1 = w.drew.setCells g (0 + i * 3) news) := hW1
  have hic : i ≤ c := by omega
  have hjc : i + 1 ≤ c := by omega
  have hwi : IntKind.i64.wrap ((i : Int) + 1) = (i : Int) + 1 := IntWalk.i64_in _ ⟨by omega, by omega⟩
  have hne : ((i : Int) == (i : Int) + 1) = false := by simp; omega
  have HOF := Lib.hid ho
  have HN := Lib.hid hn
  have HFIN := Lib.hid (show ∀ z : List Value, z.length = 3 → (setL (setL (fl xs) (0 + i * 3) news) ((n - 1) * 3) z).take ((n - 1) * 3) = fl (xs.eraseIdx i) from fun z hz => by
    rw [hnews, hn, Nat.zero_add]; exact fl_del xs i (by omega) z hz)
  have HG1 := Lib.hid (show w.grownBy W1 (some g) from only_trans (only_drew (World.grownBy.refl _ _)) g1)
  have hni : n - (i + (n - (i + 1))) = 1 := by omega
  have hb1 : 0 ≤ (i : Int) + 1 := by omega
  have hb2 : (i : Int) + 1 ≤ (n : Int) := by omega
  have hb3 : i + (n - (i + 1)) ≤ n := by omega
  have hb4 : i + (n - (i + 1)) ≠ c := by omega
  clear hW1 hnews hlen hcell ho o1 hn g1
  go_enter Tryd.func70, Tryd.ntmps70
  go_wp2_with fail
  go_region_law (refine step_append_room rfl (.tmp 22) (.tmp 25) 33 rfl 29 i0 3 Tryd.underlying33 hi0 hz1 g 0 i c (by simp [Act.eval, Act.put]) A (n - (i + 1)) (c - (i + 1)) news (by simp [Act.eval, Act.put]) s1.out hsrc.out s2.out (by omega) s3.out ?_; rw [← hW.out])
  go_wp2_with fail
  go_ret
  have en : i + (n - (i + 1)) = n - 1 := by omega
  obtain ⟨o2, g2⟩ := own_setCells (size := 3) [.int .i64 0, .int .i64 0, .string ⟨#[]⟩] ((n - 1) * 3) _ _ O1.out
  have o3 := own_cut o2 (Nat.sub_le n 1)
  rw [HFIN.out _ rfl] at o3
  rw [en]
  exact ⟨rfl, o3, only_trans HG1.out g2⟩
end Go.Proofs.YtklohbglkbhjhaaDoor

/- slices.Insert (of one) at rows of values. -/

namespace Go.Proofs.YtklohbglkbhjhaaDoor
open Go.RowKit
set_option linter.unusedVariables false

theorem run_append_tx {P : Program} (w : World) (t tx ty e e' : TypeId) (ht : P.underlying t = some (.slice e)) (htx : P.underlying tx = some (.slice e')) (A B : Option Addr) (n c m d : Nat) :
    (Builtin.append_ #[t, tx] ty #[.slice A n c, .slice B m d]).run P w = (Builtin.append_ #[t, t] ty #[.slice A n c, .slice B m d]).run P w := by
  simp [Builtin.append_, run_underlying ht, run_underlying htx]
theorem wpList_append_tx {P : Program} (w : World) {ops : Array Oper} {rest : List Oper} {o : Oper} {a : Act} {Q : Exit → Act → World → Prop} (hgd : o.guard = none) (s x : Operand) (t tx : TypeId)
    (ho : o.op = .call { callee := .builtin .append, args := #[s, x], argTypes := #[t, tx] })
    (base : Nat) (e e' : TypeId) (z : Value) (size bytes : Nat) (ht : P.underlying t = some (.slice e)) (htx : P.underlying tx = some (.slice e')) (hinfo : (P.info? e).map (fun i => (i.zero, i.size, i.bytes)) = some (some z, size, bytes)) (hzs : z.cells.size = size) (hsz0 : 0 < size)
    (A : Option Addr) (n c0 : Nat) (xs : List Value) (hs : a.eval s = .slice A n c0) (hown : w.ownsRow base e size (.slice A n c0) n xs)
    (b off m c : Nat) (news : List Value) (hx : a.eval x = .slice (some ⟨b, off, none⟩) m c) (hr : Has w (some ⟨b, off, none⟩) news) (hm : news.length = m * size) (h1 : ∀ u ∈ news, u.oneCell' = true)
    (h63 : n + m ≤ maxLen) (hbytes : (n + m) * bytes ≤ 140737488355328) (hbase : base ≤ w.heap.size)
    (h : ∀ A' c' w', w'.ownsRow base e size (.slice A' (n + m) c') (n + m) (xs ++ news) → w.grownBy w' (Value.slice A n c0).ownBlock → (A' = none → c' = 0) → wpList P ops Q rest (a.put o.dst (.slice A' (n + m) c')) w') : wpList P ops Q (o :: rest) a w := by
  obtain ⟨i, hi, hz, hsz, hby⟩ := info_parts hinfo
  have hcells : ∀ j u, news[j]? = some u → w.cell? ((⟨b, off, none⟩ : Addr).add j) = some u := by
    intro j u hu
    rcases hr with h | ⟨b', off', h, _, hc⟩
    · subst h; simp at hu
    · injection h with h
      injection h with h1 h2
      subst h1 h2
      rw [add_plain]
      exact hc j u hu
  obtain ⟨v', w', hrun, h2, h3, _, _⟩ := run_append_own_at (P := P) w base t o.type e i z size bytes ht hi hz hsz hby hzs hsz0 _ n xs hown ⟨b, off, none⟩ m c news hm hcells h1 h63 hbytes hbase
  obtain ⟨A', c', hv, hc'⟩ := ownG_shape h2
  subst hv
  rw [← run_append_tx w t tx o.type e e' ht htx] at hrun
  refine wpList_plain hgd fun _ hK => ?_
  unfold Oper.wp execOp
  simp only [ho, resolve, invoke, builtin, Sem.run_bind, Sem.run_pure, Result.andThen_ok, List.map_toArray, List.map_cons, List.map_nil, hs, hx, hrun]
  exact hK _ _ (h A' c' w' h2 h3 hc')
theorem fl_snoc (l : List Val3) (x : Val3) : fl l ++ encV x = fl (l ++ [x]) := by rw [fl_append]; rfl
theorem fl_set (l : List Val3) (k : Nat) (hk : k < l.length) (x : Val3) : setL (fl l) (k * 3) (encV x) = fl (l.set k x) := by
  rw [setL_eq _ _ _ (by rw [fl_length, encV_len]; omega), encV_len, ← fl_take, show k * 3 + 3 = (k + 1) * 3 by omega, ← fl_drop, fl_snoc, ← fl_append]
  congr 1
  rw [List.set_eq_take_append_cons_drop, if_pos hk]
  simp
/-- What Insert gives. -/
def InsP (l : List Val3) (base g0 : Nat) (w : World) (e : Ending) (w' : World) : Prop :=
  ∃ g c, e = .returned (.slice (some ⟨g, 0, none⟩) l.length c) ∧ w'.ownsRow base 29 3 (.slice (some ⟨g, 0, none⟩) l.length c) l.length (fl l) ∧ w.grownBy w' (some g0)

set_option maxRecDepth 100000 in
set_option maxHeartbeats 2000000 in
theorem insert_end (base g n c b off vc : Nat) (z : Int) (xs : List Val3) (x : Val3) (w : World) (ho : w.ownsRow base 29 3 (.slice (some ⟨g, 0, none⟩) n c) n (fl xs)) (hn : n = xs.length) (hz : z = (n : Int)) (hl : n ≤ 1000) (hv : Has w (some ⟨b, off, none⟩) (encV x)) (hb : base ≤ w.heap.size) :
    Calls Tryd.prog 72 #[.slice (some ⟨g, 0, none⟩) n c, .int .i64 z, .slice (some ⟨b, off, none⟩) 1 vc] w (InsP (xs ++ [x]) base g w) := by
  subst hz
  obtain ⟨hnc, hcm, hbg, hgl, hcell⟩ := own_capG ho
  have hm : c ≤ 9223372036854775807 := by unfold maxLen at hcm; omega
  have HN := Lib.hid hn
  have HO := Lib.hid ho
  have HV := Lib.hid hv
  clear hcell hn ho hv
  go_enter Tryd.func72, Tryd.ntmps72
  go_wp2_with (at_builtin; go_loud (refine wpList_append_tx _ rfl (.tmp 23) (.tmp 24) 33 32 rfl base 29 29 _ 3 32 Tryd.underlying33 Tryd.underlying32 info_v rfl (by decide) _ n c (fl xs) rfl HO.out b off 1 vc (encV x) rfl HV.out rfl (by simp [encV, Value.oneCell']) (by unfold maxLen; omega) (by omega) hb ?_; intro A2 c2 w6 o2 b2 n2; rw [fl_snoc] at o2; obtain ⟨g2, rfl⟩ := own_some o2 (by omega); have HO2 := Lib.hid o2; have HB6 := Lib.hid b2; clear o2 b2 n2))
  all_goals go_ret
  all_goals have hl2 : (xs ++ [x]).length = n + 1 := by rw [List.length_append, HN.out]; rfl
  all_goals exact ⟨g2, c2, by rw [hl2]; rfl, by rw [hl2]; exact HO2.out, HB6.out⟩
end Go.Proofs.YtklohbglkbhjhaaDoor
