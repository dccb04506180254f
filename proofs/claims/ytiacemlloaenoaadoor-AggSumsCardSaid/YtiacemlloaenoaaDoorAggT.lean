/- A table of rows of places that grows, and whose last row grows. -/
import Derived.Test.YtiacemlloaenoaaDoorAggC
import Derived.Test.YtiacemlloaenoaaDoorTab
namespace Go.Proofs.YtiacemlloaenoaaDoor
open Go.RowKit
set_option linter.unusedVariables false

theorem info_is : (Tryd.prog.info? 30).map (fun i => (i.zero, i.size, i.bytes)) = some (some (.slice none 0 0), 1, 24) := by kernel_rfl
theorem info_in : (Tryd.prog.info? 3).map (fun i => (i.zero, i.size, i.bytes)) = some (some (.int .i64 0), 1, 8) := by kernel_rfl
/-- The table. -/
structure GT (base : Nat) (w : World) (A : Option Addr) (n c : Nat) (ss : List SlG) : Prop where
  len : n = ss.length
  own : w.ownsRow base 30 1 (.slice A n c) n (ss.map SlG.v)
  nil : A = none → c = 0
  rows : ∀ k (h : k < ss.length), ss[k].ok base 3 1 w
  apart : ∀ j k (hj : j < ss.length) (hk : k < ss.length), j ≠ k → ∀ q, ss[j].v.ownBlock = some q → ss[k].v.ownBlock ≠ some q
  off : ∀ k (h : k < ss.length) q, ss[k].v.ownBlock = some q → (Value.slice A n c).ownBlock ≠ some q
section
variable {base : Nat} {w w' : World} {A A' : Option Addr} {n c c' : Nat} {ss : List SlG}
theorem GT.nil_ (base : Nat) (w : World) : GT base w none 0 0 [] := ⟨rfl, ownG_nil _ _ _ _, fun _ => rfl, fun k h => by simp at h, fun j k hj => by simp at hj, fun k h => by simp at h⟩
theorem GT.later (h : GT base w A n c ss) (l : Later w w') : GT base w' A n c ss := ⟨h.len, own_later h.own l, h.nil, fun k hk => (h.rows k hk).later l, h.apart, h.off⟩
theorem GT.add (h : GT base w A n c ss) (ho : w'.ownsRow base 30 1 (.slice A' (n + 1) c') (n + 1) (ss.map SlG.v ++ [.slice none 0 0])) (hg : w.grownBy w' (Value.slice A n c).ownBlock) (hat : (Value.slice A' (n + 1) c').ownBlock = (Value.slice A n c).ownBlock ∨ (Value.slice A' (n + 1) c').ownBlock = some w.heap.size) (hn : A' = none → c' = 0) : GT base w' A' (n + 1) c' (ss ++ [SlG.nil]) := by
  refine ⟨by rw [List.length_append, ← h.len]; rfl, by rw [List.map_append]; exact ho, hn, fun k hk => ?_, fun j k hj hk hne q hq => ?_, fun k hk q hq => ?_⟩
  · by_cases hlt : k < ss.length
    · rw [List.getElem_append_left hlt]
      exact ⟨own_apart (h.rows k hlt).1 hg fun q hq e => h.off k hlt q hq e.symm, (h.rows k hlt).2⟩
    · rw [List.getElem_append_right (by omega)]
      simp only [List.getElem_singleton]
      exact SlG.ok.nil _ _ _ _
  · by_cases hlt : j < ss.length
    · rw [List.getElem_append_left hlt] at hq
      by_cases hlk : k < ss.length
      · rw [List.getElem_append_left hlk]; exact h.apart j k hlt hlk hne q hq
      · rw [List.getElem_append_right (by omega)]
        simp only [List.getElem_singleton]
        intro e; cases e
    · rw [List.getElem_append_right (by omega)] at hq
      simp only [List.getElem_singleton] at hq
      cases hq
  · by_cases hlt : k < ss.length
    · rw [List.getElem_append_left hlt] at hq
      rcases hat with hat | hat
      · rw [hat]; exact h.off k hlt q hq
      · rw [hat]
        intro e
        injection e with e
        subst e
        have := ((h.rows k hlt).1.lt _ hq).2
        omega
    · rw [List.getElem_append_right (by omega)] at hq
      simp only [List.getElem_singleton] at hq
      cases hq
theorem own_setOff {w : World} {base : Nat} {e : TypeId} {k : Nat} {v : Value} {n : Nat} {xs : List Value} (h : w.ownsRow base e k v n xs) {p : Addr} (hp : ∀ q, v.ownBlock = some q → p.block ≠ q) (u : Value) : (w.setCell p u).ownsRow base e k v n xs := by
  obtain ⟨h1, h2⟩ := h
  refine ⟨h1, ?_⟩
  rcases h2 with h2 | ⟨q, cap, cur, rfl, hb, hg, hrest⟩
  · exact .inl h2
  · have hne := hp q rfl
    refine .inr ⟨q, cap, cur, rfl, hb, ?_, hrest⟩
    rw [← hg]
    exact (Below.heap_setCell w p u q (fun e => hne e.symm))
theorem GT.put {w1 w2 : World} (h : GT base w A n c ss) (k tb : Nat) (hk : k < ss.length) (hA : A = some ⟨tb, 0, none⟩) (s' : SlG) (l : Later w w1) (ho : w2.ownsRow base 3 1 s'.v s'.n s'.cs) (hnil : s'.a = none → s'.c = 0) (hgr : w1.grownBy w2 ss[k].v.ownBlock)
    (hat : s'.v.ownBlock = ss[k].v.ownBlock ∨ s'.v.ownBlock = some w1.heap.size) : GT base (w2.setCell ⟨tb, k, none⟩ s'.v) A n c (ss.set k s') := by
  subst hA
  have h1 := h.later l
  have htl : tb < w1.heap.size := (h1.own.lt tb rfl).2
  have htk : some tb ≠ ss[k].v.ownBlock := fun e => h.off k hk tb e.symm rfl
  have hown2 : w2.ownsRow base 30 1 (.slice (some ⟨tb, 0, none⟩) n c) n (ss.map SlG.v) := own_apart h1.own hgr fun q hq => by injection hq with hq; subst hq; exact htk
  have hnew : ∀ q, s'.v.ownBlock = some q → tb ≠ q := fun q hq e => by
    subst e
    rcases hat with hat | hat
    · rw [hat] at hq; exact htk hq.symm
    · rw [hat] at hq; injection hq with hq; omega
  refine ⟨by rw [List.length_set]; exact h.len, ?_, h.nil, fun j hj => ?_, fun i j hi hj hne q hq => ?_, fun j hj q hq => ?_⟩
  · rw [List.map_set]; exact (hown2.stored k s'.v).1
  · rw [List.length_set] at hj
    rw [List.getElem_set]
    split
    · exact ⟨own_setOff ho hnew _, hnil⟩
    · rename_i hne
      refine ⟨own_setOff (own_apart (h1.rows j hj).1 hgr fun q hq e => ?_) (fun q hq e => ?_) _, (h.rows j hj).2⟩
      · exact h.apart j k hj hk (fun e => hne e.symm) q hq e.symm
      · exact h.off j hj q hq (by rw [← e]; rfl)
  · rw [List.length_set] at hi hj
    rw [List.getElem_set] at hq ⊢
    split at hq
    · rename_i hik
      subst hik
      rw [if_neg hne]
      rcases hat with hat | hat
      · rw [hat] at hq
        exact h.apart k j hk hj hne q hq
      · rw [hat] at hq
        injection hq with hq
        subst hq
        intro e
        have := ((h1.rows j hj).1.lt _ e).2
        omega
    · split
      · rename_i hik hjk
        subst hjk
        rcases hat with hat | hat
        · rw [hat]; exact h.apart i k hi hk hne q hq
        · rw [hat]
          intro e
          injection e with e
          subst e
          have := ((h1.rows i hi).1.lt _ hq).2
          omega
      · exact h.apart i j hi hj hne q hq
  · rw [List.length_set] at hj
    rw [List.getElem_set] at hq
    intro e
    injection e with e
    subst e
    split at hq
    · exact hnew _ hq rfl
    · exact h.off j hj _ hq rfl
end
/-- What a row is. -/
def rkey (l : List Nat) : List Value × Nat := (pin l, l.length)
def skey (s : SlG) : List Value × Nat := (s.cs, s.n)
/-- The table holds these rows. -/
def GS (base : Nat) (w : World) (A : Option Addr) (n c : Nat) (R : List (List Nat)) : Prop := ∃ ss, GT base w A n c ss ∧ ss.map skey = R.map rkey
theorem GS.nil_ (base : Nat) (w : World) : GS base w none 0 0 [] := ⟨[], GT.nil_ _ _, rfl⟩
theorem GS.later {base : Nat} {w w' : World} {A : Option Addr} {n c : Nat} {R : List (List Nat)} (h : GS base w A n c R) (l : Later w w') : GS base w' A n c R := by
  obtain ⟨ss, h1, h2⟩ := h; exact ⟨ss, h1.later l, h2⟩
theorem GS.len {base : Nat} {w : World} {A : Option Addr} {n c : Nat} {R : List (List Nat)} (h : GS base w A n c R) : n = R.length := by
  obtain ⟨ss, h1, h2⟩ := h
  have := congrArg List.length h2
  rw [List.length_map, List.length_map] at this
  rw [h1.len, this]
/-- p more in the last row. -/
def addLast (R : List (List Nat)) (p : Nat) : List (List Nat) := R.set (R.length - 1) ((R.getD (R.length - 1) []) ++ [p])
theorem addLast_len (R : List (List Nat)) (p : Nat) : (addLast R p).length = R.length := List.length_set
theorem GS.own {base : Nat} {w : World} {A : Option Addr} {n c : Nat} {R : List (List Nat)} (h : GS base w A n c R) :
    ∃ xs, w.ownsRow base 30 1 (.slice A n c) n xs ∧ ∀ w' A' c', w'.ownsRow base 30 1 (.slice A' (n + 1) c') (n + 1) (xs ++ [.slice none 0 0]) → w.grownBy w' (Value.slice A n c).ownBlock → ((Value.slice A' (n + 1) c').ownBlock = (Value.slice A n c).ownBlock ∨ (Value.slice A' (n + 1) c').ownBlock = some w.heap.size) → (A' = none → c' = 0) → GS base w' A' (n + 1) c' (R ++ [[]]) := by
  obtain ⟨ss, h1, h2⟩ := h
  exact ⟨_, h1.own, fun w' A' c' ho hg hat hn => ⟨_, h1.add ho hg hat hn, by rw [List.map_append, List.map_append, h2]; rfl⟩⟩
theorem GS.last {base : Nat} {w : World} {A : Option Addr} {n c : Nat} {R : List (List Nat)} (h : GS base w A n c R) (hn : 1 ≤ n) :
    ∃ tb La Ln Lc, A = some ⟨tb, 0, none⟩ ∧ Ln = (R.getD (R.length - 1) []).length ∧ w.cell? ⟨tb, n - 1, none⟩ = some (.slice La Ln Lc) ∧ w.frozen? ⟨tb, n - 1, none⟩ = false ∧ base ≤ tb ∧ n ≤ c ∧ w.ownsRow base 3 1 (.slice La Ln Lc) Ln (pin (R.getD (R.length - 1) [])) ∧
      ∀ w1 w2 A' c' (p : Nat), Later w w1 → w2.ownsRow base 3 1 (.slice A' (Ln + 1) c') (Ln + 1) (pin (R.getD (R.length - 1) []) ++ [.int .i64 p]) → w1.grownBy w2 (Value.slice La Ln Lc).ownBlock →
        ((Value.slice A' (Ln + 1) c').ownBlock = (Value.slice La Ln Lc).ownBlock ∨ (Value.slice A' (Ln + 1) c').ownBlock = some w1.heap.size) → (A' = none → c' = 0) →
        w2.cell? ⟨tb, n - 1, none⟩ = some (.slice La Ln Lc) ∧ w2.frozen? ⟨tb, n - 1, none⟩ = false ∧ GS base (w2.setCell ⟨tb, n - 1, none⟩ (.slice A' (Ln + 1) c')) A n c (addLast R p) := by
  obtain ⟨ss, h1, h2⟩ := h
  have hlen : ss.length = R.length := by
    have := congrArg List.length h2
    rwa [List.length_map, List.length_map] at this
  have hkl : n - 1 < ss.length := by have := h1.len; omega
  have hkR : n - 1 < R.length := by omega
  have hRn : R.length - 1 = n - 1 := by have := h1.len; omega
  have hkey : skey ss[n - 1] = rkey R[n - 1] := by
    have : (ss.map skey)[n - 1]? = (R.map rkey)[n - 1]? := by rw [h2]
    rw [List.getElem?_map, List.getElem?_map, List.getElem?_eq_getElem hkl, List.getElem?_eq_getElem hkR] at this
    exact Option.some.inj this
  have hgd : R.getD (R.length - 1) [] = R[n - 1] := by
    rw [hRn, List.getD_eq_getElem?_getD, List.getElem?_eq_getElem hkR]; rfl
  have hcs : ss[n - 1].cs = pin R[n - 1] := congrArg Prod.fst hkey
  have hsn : ss[n - 1].n = R[n - 1].length := congrArg Prod.snd hkey
  obtain ⟨tb, hA⟩ : ∃ tb, A = some ⟨tb, 0, none⟩ := by
    rcases h1.own.2 with ⟨_, h0⟩ | ⟨g, cap, cur, hv, _⟩
    · omega
    · injection hv with e; exact ⟨g, e⟩
  subst hA
  have hown := (h1.rows (n - 1) hkl).1
  have hv : ss[n - 1].v = .slice ss[n - 1].a ss[n - 1].n ss[n - 1].c := rfl
  rw [hgd]
  have hcell := h1.own.cellAt (n - 1) (by omega)
  rw [List.getElem?_map, List.getElem?_eq_getElem hkl] at hcell
  refine ⟨tb, ss[n - 1].a, ss[n - 1].n, ss[n - 1].c, rfl, hsn, hcell, h1.own.frozenAt _, (h1.own.lt tb rfl).1, ownG_cap h1.own, by rw [← hcs, ← hv]; exact hown, fun w1 w2 A' c' p l ho hg hat hnil => ?_⟩
  have hput := h1.put (n - 1) tb hkl rfl ⟨A', ss[n - 1].n + 1, c', pin R[n - 1] ++ [.int .i64 p]⟩ l ho hnil hg hat
  have htk : some tb ≠ ss[n - 1].v.ownBlock := fun e => h1.off (n - 1) hkl tb e.symm rfl
  have hb := hg.block tb ((own_later h1.own l).lt tb rfl).2 htk
  refine ⟨(cell_block hb).trans (l.cell hcell), ?_, _, hput, ?_⟩
  · have h3 : w2.ownsRow base 30 1 (.slice (some ⟨tb, 0, none⟩) n c) n (ss.map SlG.v) := own_apart (own_later h1.own l) hg fun q hq => by injection hq with hq; subst hq; exact htk
    exact h3.frozenAt _
  · rw [List.map_set, h2]
    unfold addLast
    rw [List.map_set, hgd, hRn]
    congr 1
    show (pin R[n - 1] ++ [Value.int .i64 (p : Int)], ss[n - 1].n + 1) = (pin (R[n - 1] ++ [p]), (R[n - 1] ++ [p]).length)
    rw [pin_append, hsn, List.length_append]; rfl
/-- Rows of places, as they are read. -/
def GrAt (w : World) (A : Option Addr) (R : List (List Nat)) : Prop := ∃ ss : List SlG, Has w A (ss.map SlG.v) ∧ ss.map skey = R.map rkey ∧ ∀ s ∈ ss, Has w s.a s.cs
theorem GrAt.later {w w' : World} {A : Option Addr} {R : List (List Nat)} (h : GrAt w A R) (l : Later w w') : GrAt w' A R := by
  obtain ⟨ss, h1, h2, h3⟩ := h
  exact ⟨ss, h1.later l, h2, fun s hs => (h3 s hs).later l⟩
theorem GS.at_ {base : Nat} {w : World} {A : Option Addr} {n c : Nat} {R : List (List Nat)} (h : GS base w A n c R) : GrAt w A R := by
  obtain ⟨ss, h1, h2⟩ := h
  refine ⟨ss, Has.ownG h1.own, h2, fun s hs => ?_⟩
  obtain ⟨k, hk, rfl⟩ := List.mem_iff_getElem.1 hs
  exact Has.ownG (h1.rows k hk).1
theorem GrAt.get {w : World} {A : Option Addr} {R : List (List Nat)} (h : GrAt w A R) (k : Nat) (hk : k < R.length) :
    ∃ b off a c, A = some ⟨b, off, none⟩ ∧ w.cell? ⟨b, off + k, none⟩ = some (.slice a R[k].length c) ∧ Has w a (pin R[k]) := by
  obtain ⟨ss, h1, h2, h3⟩ := h
  have hlen : ss.length = R.length := by
    have := congrArg List.length h2
    rwa [List.length_map, List.length_map] at this
  have hkl : k < ss.length := by omega
  have hkey : skey ss[k] = rkey R[k] := by
    have : (ss.map skey)[k]? = (R.map rkey)[k]? := by rw [h2]
    rw [List.getElem?_map, List.getElem?_map, List.getElem?_eq_getElem hkl, List.getElem?_eq_getElem hk] at this
    exact Option.some.inj this
  have hcs : ss[k].cs = pin R[k] := congrArg Prod.fst hkey
  have hsn : ss[k].n = R[k].length := congrArg Prod.snd hkey
  obtain ⟨b, off, hA, _, hc⟩ := h1.at_ (k := k) (by rw [List.length_map]; exact hkl)
  refine ⟨b, off, ss[k].a, ss[k].c, hA, ?_, ?_⟩
  · rw [hc, List.getElem_map]
    unfold SlG.v
    rw [hsn]
  · rw [← hcs]; exact h3 _ (List.getElem_mem hkl)
theorem GrAt.one {w : World} {g : Nat} {a : Option Addr} {l : List Nat} {c : Nat} {t : TypeId} (hb : Blk w g #[.slice a l.length c] t) (h : Has w a (pin l)) : GrAt w (some ⟨g, 0, none⟩) [l] :=
  ⟨[⟨a, l.length, c, pin l⟩], hb.has, rfl, fun s hs => by rw [List.mem_singleton] at hs; subst hs; exact h⟩
end Go.Proofs.YtiacemlloaenoaaDoor
