
import Derived.Test.YtkdpjocglfephaaDoorTab
import Derived.Test.YtkdpjocglfephaaDoorAggS
import Derived.Test.YtkdpjocglfephaaDoorBase
import Derived.Test.YtkdpjocglfephaaDoorCell
import Derived.Test.YtkdpjocglfephaaDoorAggB
import Derived.Laws.Externs
import Derived.Shelf.SlSortCmp.QuietGrown
import Derived.BigQuiet
import Derived.Test.YtkdpjocglfephaaDoorInsl
import Derived.WalkKit
import Derived.Laws.OwnMore
import Derived.Laws.BytesArg
import Derived.Laws.Rows
import Derived.Deep.AppendLies
import Derived.Deep.Draws
import Derived.Test.YtkdpjocglfephaaDoorChecked
import Derived.Deep.OwnRows
import Derived.Lib.Hide
import Derived.Deep.Quiet
import Derived.Laws.AppendOwnNone
import Derived.Lib.Strings
import Derived.Outline
import Derived.WalkLawsBesides
import Derived.WalkSpells
import Derived.PlainAid
import Derived.Deep.QuietTactic
import Derived.RegionTactic
import Derived.BigRegion
import Derived.Handy
import Derived.Laws.BitsAllLaws
import Derived.Deep.RegionWith
import Derived.Lib.AppendStr
import Derived.Deep.RegionLaw
import Derived.Maps.AppendAt
import Derived.OpenShut
import Derived.WideShapes
import Derived.ChangeArms
import Derived.Deep.Slices
import Derived.Sort.Grow
import Derived.LaidEql
import Derived.Stop.Asserts
import Derived.RowKitTokens
import Derived.Laws.BitsLemmas
import Derived.Laws.Bits64
import Derived.WalkSmall
import Derived.Stop.IfaceNil
import Derived.Lib.Bytealg
import Derived.Deep.SlicePairs
import Derived.Test.YtkdpjocglfephaaDoorShelf
import Derived.Sort.LotA
import Derived.Deep.RegionHeld3
import Derived.OrdersHeld
import Derived.Deep.CutBlock
import Derived.Deep.CutRange
/- A table of groups of rows that grows, and whose last group grows. (out of AggT) -/


namespace Go.Proofs.YtkdpjocglfephaaDoor
open Go.RowKit
set_option linter.unusedVariables false

theorem info_qs : (Tryd.prog.info? 67).map (fun i => (i.zero, i.size, i.bytes)) = some (some (.slice none 0 0), 1, 24) := by kernel_rfl
theorem info_qr : (Tryd.prog.info? 56).map (fun i => (i.zero, i.size, i.bytes)) = some (some (.slice none 0 0), 1, 24) := by kernel_rfl
/-- Rows as cells. -/
def rvs (l : List SlV) : List Value := l.map SlV.v
theorem rvs_append (a b : List SlV) : rvs (a ++ b) = rvs a ++ rvs b := List.map_append
/-- The table. -/
structure QT (base : Nat) (w : World) (A : Option Addr) (n c : Nat) (ss : List SlG) : Prop where
  len : n = ss.length
  own : w.ownsRow base 67 1 (.slice A n c) n (ss.map SlG.v)
  nil : A = none → c = 0
  rows : ∀ k (h : k < ss.length), ss[k].ok base 56 1 w
  apart : ∀ j k (hj : j < ss.length) (hk : k < ss.length), j ≠ k → ∀ q, ss[j].v.ownBlock = some q → ss[k].v.ownBlock ≠ some q
  off : ∀ k (h : k < ss.length) q, ss[k].v.ownBlock = some q → (Value.slice A n c).ownBlock ≠ some q
section
variable {base : Nat} {w w' w'' : World} {A A' : Option Addr} {n c c' : Nat} {ss : List SlG}
theorem QT.nil_ (base : Nat) (w : World) : QT base w none 0 0 [] := ⟨rfl, ownG_nil _ _ _ _, fun _ => rfl, fun k h => by simp at h, fun j k hj => by simp at hj, fun k h => by simp at h⟩
theorem QT.later (h : QT base w A n c ss) (l : Later w w') : QT base w' A n c ss := ⟨h.len, own_later h.own l, h.nil, fun k hk => (h.rows k hk).later l, h.apart, h.off⟩
theorem QT.add (h : QT base w A n c ss) (l : Later w w') (s' : SlG) (hs : w'.ownsRow base 56 1 s'.v s'.n s'.cs) (hnil : s'.a = none → s'.c = 0) (hnew : ∀ q, s'.v.ownBlock = some q → w.heap.size ≤ q) (ho : w''.ownsRow base 67 1 (.slice A' (n + 1) c') (n + 1) (ss.map SlG.v ++ [s'.v])) (hg : w'.grownBy w'' (Value.slice A n c).ownBlock) (hat : (Value.slice A' (n + 1) c').ownBlock = (Value.slice A n c).ownBlock ∨ (Value.slice A' (n + 1) c').ownBlock = some w'.heap.size) (hn : A' = none → c' = 0) : QT base w'' A' (n + 1) c' (ss ++ [s']) := by
  have h' := h.later l
  have hAlt : ∀ q, (Value.slice A n c).ownBlock = some q → q < w.heap.size := fun q hq => (h.own.lt q hq).2
  refine ⟨by rw [List.length_append, ← h.len]; rfl, by rw [List.map_append]; exact ho, hn, fun k hk => ?_, fun j k hj hk hne q hq => ?_, fun k hk q hq => ?_⟩
  · by_cases hlt : k < ss.length
    · rw [List.getElem_append_left hlt]
      exact ⟨own_apart (h'.rows k hlt).1 hg fun q hq e => h.off k hlt q hq e.symm, (h.rows k hlt).2⟩
    · rw [List.getElem_append_right (by omega)]
      simp only [List.getElem_singleton]
      exact ⟨own_apart hs hg fun q hq e => by have := hAlt q e.symm; have := hnew q hq; omega, hnil⟩
  · by_cases hlt : j < ss.length
    · rw [List.getElem_append_left hlt] at hq
      by_cases hlk : k < ss.length
      · rw [List.getElem_append_left hlk]; exact h.apart j k hlt hlk hne q hq
      · rw [List.getElem_append_right (by omega)]
        simp only [List.getElem_singleton]
        intro e
        have := hnew q e
        have := ((h.rows j hlt).1.lt q hq).2
        omega
    · rw [List.getElem_append_right (by omega)] at hq
      simp only [List.getElem_singleton] at hq
      have hlk : k < ss.length := by
        rw [List.length_append, List.length_singleton] at hj hk
        omega
      rw [List.getElem_append_left hlk]
      intro e
      have := hnew q hq
      have := ((h.rows k hlk).1.lt q e).2
      omega
  · by_cases hlt : k < ss.length
    · rw [List.getElem_append_left hlt] at hq
      rcases hat with hat | hat
      · rw [hat]; exact h.off k hlt q hq
      · rw [hat]
        intro e
        injection e with e
        subst e
        have := ((h'.rows k hlt).1.lt _ hq).2
        omega
    · rw [List.getElem_append_right (by omega)] at hq
      simp only [List.getElem_singleton] at hq
      rcases hat with hat | hat
      · rw [hat]
        intro e
        have := hAlt q e
        have := hnew q hq
        omega
      · rw [hat]
        intro e
        injection e with e
        subst e
        have := (hs.lt _ hq).2
        omega
theorem QT.put {w1 w2 : World} (h : QT base w A n c ss) (k tb : Nat) (hk : k < ss.length) (hA : A = some ⟨tb, 0, none⟩) (s' : SlG) (l : Later w w1) (ho : w2.ownsRow base 56 1 s'.v s'.n s'.cs) (hnil : s'.a = none → s'.c = 0) (hgr : w1.grownBy w2 ss[k].v.ownBlock)
    (hat : s'.v.ownBlock = ss[k].v.ownBlock ∨ s'.v.ownBlock = some w1.heap.size) : QT base (w2.setCell ⟨tb, k, none⟩ s'.v) A n c (ss.set k s') := by
  subst hA
  have h1 := h.later l
  have htl : tb < w1.heap.size := (h1.own.lt tb rfl).2
  have htk : some tb ≠ ss[k].v.ownBlock := fun e => h.off k hk tb e.symm rfl
  have hown2 : w2.ownsRow base 67 1 (.slice (some ⟨tb, 0, none⟩) n c) n (ss.map SlG.v) := own_apart h1.own hgr fun q hq => by injection hq with hq; subst hq; exact htk
  have hnew : ∀ q, s'.v.ownBlock = some q → tb ≠ q := fun q hq e => by
    subst e
    rcases hat with hat | hat
    · rw [hat] at hq; exact htk hq.symm
    · rw [hat] at hq; injection hq with hq; omega
  refine ⟨by rw [List.length_set]; exact h.len, ?_, h.nil, fun j hj => ?_, fun i j hi hj hne q hq => ?_, fun j hj q hq => ?_⟩
  · rw [List.map_set]; exact (hown2.stored k s'.v).1
  · rw [List.length_set] at hj
    rw [List.getElem_set]
    split
    · exact ⟨own_setOff ho hnew _, hnil⟩
    · rename_i hne
      refine ⟨own_setOff (own_apart (h1.rows j hj).1 hgr fun q hq e => ?_) (fun q hq e => ?_) _, (h.rows j hj).2⟩
      · exact h.apart j k hj hk (fun e => hne e.symm) q hq e.symm
      · exact h.off j hj q hq (by rw [← e]; rfl)
  · rw [List.length_set] at hi hj
    rw [List.getElem_set] at hq ⊢
    split at hq
    · rename_i hik
      subst hik
      rw [if_neg hne]
      rcases hat with hat | hat
      · rw [hat] at hq
        exact h.apart k j hk hj hne q hq
      · rw [hat] at hq
        injection hq with hq
        subst hq
        intro e
        have := ((h1.rows j hj).1.lt _ e).2
        omega
    · split
      · rename_i hik hjk
        subst hjk
        rcases hat with hat | hat
        · rw [hat]; exact h.apart i k hi hk hne q hq
        · rw [hat]
          intro e
          injection e with e
          subst e
          have := ((h1.rows i hi).1.lt _ hq).2
          omega
      · exact h.apart i j hi hj hne q hq
  · rw [List.length_set] at hj
    rw [List.getElem_set] at hq
    intro e
    injection e with e
    subst e
    split at hq
    · exact hnew _ hq rfl
    · exact h.off j hj _ hq rfl
end
/-- What a row is. -/
def qkey (l : List SlV) : List Value × Nat := (rvs l, l.length)
/-- The table holds these rows. -/
def QS (base : Nat) (w : World) (A : Option Addr) (n c : Nat) (R : List (List SlV)) : Prop := ∃ ss, QT base w A n c ss ∧ ss.map skey = R.map qkey
theorem QS.nil_ (base : Nat) (w : World) : QS base w none 0 0 [] := ⟨[], QT.nil_ _ _, rfl⟩
theorem QS.later {base : Nat} {w w' : World} {A : Option Addr} {n c : Nat} {R : List (List SlV)} (h : QS base w A n c R) (l : Later w w') : QS base w' A n c R := by
  obtain ⟨ss, h1, h2⟩ := h; exact ⟨ss, h1.later l, h2⟩
theorem QS.len {base : Nat} {w : World} {A : Option Addr} {n c : Nat} {R : List (List SlV)} (h : QS base w A n c R) : n = R.length := by
  obtain ⟨ss, h1, h2⟩ := h
  have := congrArg List.length h2
  rw [List.length_map, List.length_map] at this
  rw [h1.len, this]
/-- p more in the last row. -/
def addQ (R : List (List SlV)) (p : SlV) : List (List SlV) := R.set (R.length - 1) ((R.getD (R.length - 1) []) ++ [p])
theorem QS.own {base : Nat} {w : World} {A : Option Addr} {n c : Nat} {R : List (List SlV)} (h : QS base w A n c R) :
    ∃ xs, w.ownsRow base 67 1 (.slice A n c) n xs ∧ ∀ w' w'' A' c' (a : Option Addr) (m : Nat) (l : List SlV), Later w w' → m = l.length → w'.ownsRow base 56 1 (.slice a m m) m (rvs l) → (∀ q, (Value.slice a m m).ownBlock = some q → w.heap.size ≤ q) → (a = none → m = 0) → w''.ownsRow base 67 1 (.slice A' (n + 1) c') (n + 1) (xs ++ [.slice a m m]) → w'.grownBy w'' (Value.slice A n c).ownBlock → ((Value.slice A' (n + 1) c').ownBlock = (Value.slice A n c).ownBlock ∨ (Value.slice A' (n + 1) c').ownBlock = some w'.heap.size) → (A' = none → c' = 0) → QS base w'' A' (n + 1) c' (R ++ [l]) := by
  obtain ⟨ss, h1, h2⟩ := h
  exact ⟨_, h1.own, fun w' w'' A' c' a m l L hm hs hnew hnil ho hg hat hn => ⟨_, h1.add L ⟨a, m, m, rvs l⟩ hs hnil hnew ho hg hat hn, by rw [List.map_append, List.map_append, h2]; subst hm; rfl⟩⟩
theorem QS.last {base : Nat} {w : World} {A : Option Addr} {n c : Nat} {R : List (List SlV)} (h : QS base w A n c R) (hn : 1 ≤ n) :
    ∃ tb La Ln Lc, A = some ⟨tb, 0, none⟩ ∧ Ln = (R.getD (R.length - 1) []).length ∧ w.cell? ⟨tb, n - 1, none⟩ = some (.slice La Ln Lc) ∧ w.frozen? ⟨tb, n - 1, none⟩ = false ∧ base ≤ tb ∧ n ≤ c ∧ w.ownsRow base 56 1 (.slice La Ln Lc) Ln (rvs (R.getD (R.length - 1) [])) ∧
      ∀ w1 w2 A' c' (p : SlV), Later w w1 → w2.ownsRow base 56 1 (.slice A' (Ln + 1) c') (Ln + 1) (rvs (R.getD (R.length - 1) []) ++ [p.v]) → w1.grownBy w2 (Value.slice La Ln Lc).ownBlock →
        ((Value.slice A' (Ln + 1) c').ownBlock = (Value.slice La Ln Lc).ownBlock ∨ (Value.slice A' (Ln + 1) c').ownBlock = some w1.heap.size) → (A' = none → c' = 0) →
        w2.cell? ⟨tb, n - 1, none⟩ = some (.slice La Ln Lc) ∧ w2.frozen? ⟨tb, n - 1, none⟩ = false ∧ QS base (w2.setCell ⟨tb, n - 1, none⟩ (.slice A' (Ln + 1) c')) A n c (addQ R p) := by
  obtain ⟨ss, h1, h2⟩ := h
  have hlen : ss.length = R.length := by
    have := congrArg List.length h2
    rwa [List.length_map, List.length_map] at this
  have hkl : n - 1 < ss.length := by have := h1.len; omega
  have hkR : n - 1 < R.length := by omega
  have hRn : R.length - 1 = n - 1 := by have := h1.len; omega
  have hkey : skey ss[n - 1] = qkey R[n - 1] := by
    have : (ss.map skey)[n - 1]? = (R.map qkey)[n - 1]? := by rw [h2]
    rw [List.getElem?_map, List.getElem?_map, List.getElem?_eq_getElem hkl, List.getElem?_eq_getElem hkR] at this
    exact Option.some.inj this
  have hgd : R.getD (R.length - 1) [] = R[n - 1] := by
    rw [hRn, List.getD_eq_getElem?_getD, List.getElem?_eq_getElem hkR]; rfl
  have hcs : ss[n - 1].cs = rvs R[n - 1] := congrArg Prod.fst hkey
  have hsn : ss[n - 1].n = R[n - 1].length := congrArg Prod.snd hkey
  obtain ⟨tb, hA⟩ : ∃ tb, A = some ⟨tb, 0, none⟩ := by
    rcases h1.own.2 with ⟨_, h0⟩ | ⟨g, cap, cur, hv, _⟩
    · omega
    · injection hv with e; exact ⟨g, e⟩
  subst hA
  have hown := (h1.rows (n - 1) hkl).1
  have hv : ss[n - 1].v = .slice ss[n - 1].a ss[n - 1].n ss[n - 1].c := rfl
  rw [hgd]
  have hcell := h1.own.cellAt (n - 1) (by omega)
  rw [List.getElem?_map, List.getElem?_eq_getElem hkl] at hcell
  refine ⟨tb, ss[n - 1].a, ss[n - 1].n, ss[n - 1].c, rfl, hsn, hcell, h1.own.frozenAt _, (h1.own.lt tb rfl).1, ownG_cap h1.own, by rw [← hcs, ← hv]; exact hown, fun w1 w2 A' c' p l ho hg hat hnil => ?_⟩
  have hput := h1.put (n - 1) tb hkl rfl ⟨A', ss[n - 1].n + 1, c', rvs R[n - 1] ++ [p.v]⟩ l ho hnil hg hat
  have htk : some tb ≠ ss[n - 1].v.ownBlock := fun e => h1.off (n - 1) hkl tb e.symm rfl
  have hb := hg.block tb ((own_later h1.own l).lt tb rfl).2 htk
  refine ⟨(cell_block hb).trans (l.cell hcell), ?_, _, hput, ?_⟩
  · have h3 : w2.ownsRow base 67 1 (.slice (some ⟨tb, 0, none⟩) n c) n (ss.map SlG.v) := own_apart (own_later h1.own l) hg fun q hq => by injection hq with hq; subst hq; exact htk
    exact h3.frozenAt _
  · rw [List.map_set, h2]
    unfold addQ
    rw [List.map_set, hgd, hRn]
    congr 1
    show (rvs R[n - 1] ++ [p.v], ss[n - 1].n + 1) = (rvs (R[n - 1] ++ [p]), (R[n - 1] ++ [p]).length)
    rw [rvs_append, hsn, List.length_append]; rfl
/-- Rows of places, as they are read. -/
def QAt (w : World) (A : Option Addr) (R : List (List SlV)) : Prop := ∃ ss : List SlG, Has w A (ss.map SlG.v) ∧ ss.map skey = R.map qkey ∧ ∀ s ∈ ss, Has w s.a s.cs
theorem QAt.later {w w' : World} {A : Option Addr} {R : List (List SlV)} (h : QAt w A R) (l : Later w w') : QAt w' A R := by
  obtain ⟨ss, h1, h2, h3⟩ := h
  exact ⟨ss, h1.later l, h2, fun s hs => (h3 s hs).later l⟩
theorem QS.at_ {base : Nat} {w : World} {A : Option Addr} {n c : Nat} {R : List (List SlV)} (h : QS base w A n c R) : QAt w A R := by
  obtain ⟨ss, h1, h2⟩ := h
  refine ⟨ss, Has.ownG h1.own, h2, fun s hs => ?_⟩
  obtain ⟨k, hk, rfl⟩ := List.mem_iff_getElem.1 hs
  exact Has.ownG (h1.rows k hk).1
theorem QAt.get {w : World} {A : Option Addr} {R : List (List SlV)} (h : QAt w A R) (k : Nat) (hk : k < R.length) :
    ∃ b off a c, A = some ⟨b, off, none⟩ ∧ w.cell? ⟨b, off + k, none⟩ = some (.slice a R[k].length c) ∧ Has w a (rvs R[k]) := by
  obtain ⟨ss, h1, h2, h3⟩ := h
  have hlen : ss.length = R.length := by
    have := congrArg List.length h2
    rwa [List.length_map, List.length_map] at this
  have hkl : k < ss.length := by omega
  have hkey : skey ss[k] = qkey R[k] := by
    have : (ss.map skey)[k]? = (R.map qkey)[k]? := by rw [h2]
    rw [List.getElem?_map, List.getElem?_map, List.getElem?_eq_getElem hkl, List.getElem?_eq_getElem hk] at this
    exact Option.some.inj this
  have hcs : ss[k].cs = rvs R[k] := congrArg Prod.fst hkey
  have hsn : ss[k].n = R[k].length := congrArg Prod.snd hkey
  obtain ⟨b, off, hA, _, hc⟩ := h1.at_ (k := k) (by rw [List.length_map]; exact hkl)
  refine ⟨b, off, ss[k].a, ss[k].c, hA, ?_, ?_⟩
  · rw [hc, List.getElem_map]
    unfold SlG.v
    rw [hsn]
  · rw [← hcs]; exact h3 _ (List.getElem_mem hkl)
theorem QAt.one {w : World} {g : Nat} {a : Option Addr} {l : List SlV} {c : Nat} {t : TypeId} (hb : Blk w g #[.slice a l.length c] t) (h : Has w a (rvs l)) : QAt w (some ⟨g, 0, none⟩) [l] :=
  ⟨[⟨a, l.length, c, rvs l⟩], hb.has, rfl, fun s hs => by rw [List.mem_singleton] at hs; subst hs; exact h⟩
end Go.Proofs.YtkdpjocglfephaaDoor









/- Walks of package value: May, Fits, width, rank; and the reference's. -/
namespace Go.Proofs.YtkdpjocglfephaaDoor.V1
open Go.Proofs.YtkdpjocglfephaaDoor
open Go.RowKit
set_option linter.unusedVariables false

/-- A call that says whether p, and leaves what was there. -/
def SaysP (p : Prop) (w : World) (e : Ending) (w' : World) : Prop := ∃ r : Bool, (r = true ↔ p) ∧ e = .returned (.bool r) ∧ Below w.heap.size w w'
theorem SaysP.yes {p : Prop} {w w' : World} (h : p) (hb : Below w.heap.size w w') : SaysP p w (.returned (.bool true)) w' := ⟨true, by simp [h], rfl, hb⟩
theorem SaysP.no {p : Prop} {w w' : World} (h : ¬ p) (hb : Below w.heap.size w w') : SaysP p w (.returned (.bool false)) w' := ⟨false, by simp [h], rfl, hb⟩

theorem rank_any (t i : Int) (s : ByteArray) (w : World) : Calls Tryd.prog 83 #[.agg #[.int .i64 t, .int .i64 i, .string s]] w fun e w' => e = .returned (.int .i64 (rankV t)) ∧ Below w.heap.size w w' := by
  have HE1 := Lib.hid (fun o : Obj => (Below.refl w.heap.size w).alloc (Nat.le_refl _) o)
  go_enter Tryd.func83, Tryd.ntmps83
  go_wp2_with fail
  all_goals go_ret
  all_goals simp only [beq_iff_eq, beq_eq_false_iff_ne, ne_eq] at *
  all_goals exact ⟨ret_int (by simp [rankV, *]), HE1.out _⟩
theorem class_any (t i : Int) (s : ByteArray) (w : World) : Calls Tryd.prog 46 #[.agg #[.int .i64 t, .int .i64 i, .string s]] w fun e w' => e = .returned (.int .i64 (rankV t)) ∧ Below w.heap.size w w' := by
  have HE1 := Lib.hid (fun o : Obj => (Below.refl w.heap.size w).alloc (Nat.le_refl _) o)
  go_enter Tryd.func46, Tryd.ntmps46
  go_wp2_with fail
  all_goals go_ret
  all_goals simp only [beq_iff_eq, beq_eq_false_iff_ne, ne_eq] at *
  all_goals exact ⟨ret_int (by simp [rankV, *]), HE1.out _⟩

end Go.Proofs.YtkdpjocglfephaaDoor.V1

/- The walk of value.Put. -/
namespace Go.Proofs.YtkdpjocglfephaaDoor.V1
open Go.Proofs.YtkdpjocglfephaaDoor
open Go.RowKit
set_option linter.unusedVariables false

theorem own_mono {w : World} {base base' : Nat} {e : TypeId} {v : Value} {n : Nat} {xs : List Value} (h : w.ownsRow base e 1 v n xs) (hb : base' ≤ base) : w.ownsRow base' e 1 v n xs := by
  obtain ⟨h1, h2⟩ := h
  refine ⟨h1, ?_⟩
  rcases h2 with h2 | ⟨g, cap, cur, ha, hb2, hrest⟩
  · exact .inl h2
  · exact .inr ⟨g, cap, cur, ha, Nat.le_trans hb hb2, hrest⟩

end Go.Proofs.YtkdpjocglfephaaDoor.V1


/- value.Put whole; the reference's Put. -/
namespace Go.Proofs.YtkdpjocglfephaaDoor.V1
open Go.Proofs.YtkdpjocglfephaaDoor
open Go.RowKit
set_option linter.unusedVariables false

end Go.Proofs.YtkdpjocglfephaaDoor.V1

/- Which value bytes begin with: plain mathematics. -/
namespace Go.Proofs.YtkdpjocglfephaaDoor.V1
open Go.Proofs.YtkdpjocglfephaaDoor
open Go.RowKit
set_option linter.unusedVariables false

end Go.Proofs.YtkdpjocglfephaaDoor.V1

/- Walks of package value: readText, read. -/
namespace Go.Proofs.YtkdpjocglfephaaDoor.V1
open Go.Proofs.YtkdpjocglfephaaDoor
open Go.RowKit
set_option linter.unusedVariables false

theorem conv_str (A : Option Addr) (n c : Nat) (l : List Nat) (hn : n = l.length) (w : World) (B : Nat) (hr : Rd w B A (ints .u8 l)) :
    (convert 22 9 (.slice A n c)).run Tryd.prog w = .ok (.string (bstr l)) w :=
  run_bstr 22 5 9 Tryd.underlying22 Tryd.underlying5 Tryd.underlying9 A n c l hn w B hr
abbrev vagg (t i : Int) (s : ByteArray) : Value := .agg #[.int .i64 t, .int .i64 i, .string s]
end Go.Proofs.YtkdpjocglfephaaDoor.V1

/- The walk of value.read. -/
namespace Go.Proofs.YtkdpjocglfephaaDoor.V1
open Go.Proofs.YtkdpjocglfephaaDoor
open Go.RowKit
set_option linter.unusedVariables false

end Go.Proofs.YtkdpjocglfephaaDoor.V1

/- value.read at all bytes; value.Take. -/
namespace Go.Proofs.YtkdpjocglfephaaDoor.V1
open Go.Proofs.YtkdpjocglfephaaDoor
open Go.RowKit
set_option linter.unusedVariables false

end Go.Proofs.YtkdpjocglfephaaDoor.V1

/- The walk of value.Take. -/
namespace Go.Proofs.YtkdpjocglfephaaDoor.V1
open Go.Proofs.YtkdpjocglfephaaDoor
open Go.RowKit
set_option linter.unusedVariables false

theorem three_blk {w : World} {g : Nat} {cs : Array Value} {t : TypeId} (h : Blk w g cs t) (hs : cs.size = 3) (x y z : Value) : Blk (((w.setCell ⟨g, 0, none⟩ x).setCell ⟨g, 1, none⟩ y).setCell ⟨g, 2, none⟩ z) g #[x, y, z] t := by
  have := ((h.set_ 0 x).set_ 1 y).set_ 2 z
  have e : ((cs.setIfInBounds 0 x).setIfInBounds 1 y).setIfInBounds 2 z = #[x, y, z] := by
    match cs, hs with
    | ⟨[a, b, c]⟩, _ => rfl
  rwa [e] at this
theorem three_later {w w' : World} {g : Nat} (h : Later w w') (hg : w.heap.size ≤ g) (x y z : Value) : Later w (((w'.setCell ⟨g, 0, none⟩ x).setCell ⟨g, 1, none⟩ y).setCell ⟨g, 2, none⟩ z) := ((h.set_ hg _).set_ hg _).set_ hg _
end Go.Proofs.YtkdpjocglfephaaDoor.V1

namespace Go.Proofs.YtkdpjocglfephaaDoor.V1
open Go.Proofs.YtkdpjocglfephaaDoor
open Go.RowKit
set_option linter.unusedVariables false
end Go.Proofs.YtkdpjocglfephaaDoor.V1

/- The walk of the reference's Compare. -/




namespace Go.Proofs.YtkdpjocglfephaaDoor
open Go.RowKit
set_option linter.unusedVariables false

theorem class_l (t i : Int) (s : ByteArray) (w : World) : Calls Tryd.prog 46 #[vagg t i s] w fun e w' => e = .returned (.int .i64 (rankV t)) ∧ Later w w' := V1.class_any t i s w
set_option maxRecDepth 100000 in
set_option maxHeartbeats 2000000 in
theorem refCmp_any (t i : Int) (s : ByteArray) (t' i' : Int) (s' : ByteArray) (w : World) :
    Calls Tryd.prog 26 #[vagg t i s, vagg t' i' s'] w (TellsInt (cmpV t i s t' i' s') w) := by
  obtain ⟨w1, hw1⟩ : ∃ w1 : World, (w.alloc (.cells #[.int .i64 t, .int .i64 i, .string s] 26)).alloc (.cells #[.int .i64 t', .int .i64 i', .string s'] 26) = w1 := ⟨_, rfl⟩
  have L1 : Later w w1 := hw1 ▸ ((Later.refl w).alloc _).alloc _
  have A1 : Blk w1 w.heap.size #[.int .i64 t, .int .i64 i, .string s] 26 := hw1 ▸ (Blk.new w _ _ _ rfl).later (Later.new _ _)
  have B1 : Blk w1 (w.heap.size + 1) #[.int .i64 t', .int .i64 i', .string s'] 26 := hw1 ▸ Blk.new _ _ _ _ (by simp)
  have HW := Lib.hid hw1
  clear hw1
  have a0 := A1.cell 0 _ rfl
  have a1 := A1.cell 1 _ rfl
  have a2 := A1.cell 2 _ rfl
  have b0 := B1.cell 0 _ rfl
  have b1 := B1.cell 1 _ rfl
  have b2 := B1.cell 2 _ rfl
  go_enter Tryd.func26, Tryd.ntmps26
  go_wp2_with fail
  rw [HW.out]
  have A1 := A1.drew
  have B1 := B1.drew
  have L1 := L1.drew
  go_region_with (go_at_call 46; refine (class_l _ _ _ _).mono ?_; rintro e wX ⟨rfl, lX⟩; have A1 := A1.later lX; have B1 := B1.later lX; have L1 := L1.trans lX; have a0 := A1.cell 0 _ rfl; have a1 := A1.cell 1 _ rfl; have a2 := A1.cell 2 _ rfl; have b0 := B1.cell 0 _ rfl; have b1 := B1.cell 1 _ rfl; have b2 := B1.cell 2 _ rfl; clear lX)
  all_goals
    have hin := rankV_in t
    have hin' := rankV_in t'
    have HF := Lib.hid (show rankV t ≠ rankV t' → cmpV t i s t' i' s' = cmpI (rankV t) (rankV t') from cmpV_far)
    have HV := Lib.hid (show rankV t = rankV t' → cmpV t i s t' i' s' = if rankV t = 0 then 0 else if rankV t = 2 then cmpS s.data.toList s'.data.toList else cmpI i i' from cmpV_near)
    obtain ⟨x, hx⟩ : ∃ x, x = rankV t := ⟨_, rfl⟩
    obtain ⟨y, hy⟩ : ∃ y, y = rankV t' := ⟨_, rfl⟩
    rw [← hx] at hin HF HV ⊢
    rw [← hy] at hin' HF HV ⊢
    have hx3 : x = 0 ∨ x = 1 ∨ x = 2 := by omega
    have hy3 : y = 0 ∨ y = 1 ∨ y = 2 := by omega
    clear hx hy hin hin'
    rcases Int.lt_trichotomy x y with hlt | heq | hgt
    · have HZ := Lib.hid ((HF.out (by omega)).trans (cmpI_lt hlt))
      clear hx3 hy3
      go_wp2_with fail
      go_ret
      exact ⟨ret_int HZ.out.symm, L1⟩
    · subst heq
      rcases hx3 with rfl | rfl | rfl
      · have HZ := Lib.hid (show cmpV t i s t' i' s' = 0 from HV.out rfl)
        clear hy3
        go_wp2_with fail
        go_ret
        exact ⟨ret_int HZ.out.symm, L1⟩
      · have HZ := Lib.hid (show cmpV t i s t' i' s' = cmpI i i' from HV.out rfl)
        clear hy3
        rcases Int.lt_trichotomy i i' with hlt | heq | hgt
        · have HZ2 := Lib.hid (HZ.out.trans (cmpI_lt hlt))
          go_wp2_with fail
          go_ret
          exact ⟨ret_int HZ2.out.symm, L1⟩
        · have HZ2 := Lib.hid (HZ.out.trans (cmpI_eq heq))
          subst heq
          go_wp2_with fail
          go_ret
          exact ⟨ret_int HZ2.out.symm, L1⟩
        · have HZ2 := Lib.hid (HZ.out.trans (cmpI_gt hgt))
          have hnl : ¬ i < i' := by omega
          go_wp2_with fail
          go_ret
          exact ⟨ret_int HZ2.out.symm, L1⟩
      · have HZ := Lib.hid (show cmpV t i s t' i' s' = cmpS s.data.toList s'.data.toList from HV.out rfl)
        have hless : Op.bytesLess s.toList s'.toList = decide (cmpS s.data.toList s'.data.toList < 0) := by rw [Lib.toList_data, Lib.toList_data, less_iff]
        have heqs : (s.toList == s'.toList) = decide (cmpS s.data.toList s'.data.toList = 0) := by
          rw [Lib.toList_data, Lib.toList_data, Bool.eq_iff_iff]
          simp only [beq_iff_eq, decide_eq_true_eq]
          exact ⟨fun h => by rw [h]; exact cmpS_self _, cmpS_zero _ _⟩
        clear hy3
        rcases cmpS_in s.data.toList s'.data.toList with h | h | h
        · have HZ2 := Lib.hid (HZ.out.trans h)
          have hl : Op.bytesLess s.toList s'.toList = true := by rw [hless, h]; rfl
          clear hless heqs h
          go_wp2_with fail
          go_ret
          exact ⟨ret_int HZ2.out.symm, L1⟩
        · have HZ2 := Lib.hid (HZ.out.trans h)
          have hl : Op.bytesLess s.toList s'.toList = false := by rw [hless, h]; rfl
          have he : (s.toList == s'.toList) = true := by rw [heqs, h]; rfl
          clear hless heqs h
          go_wp2_with fail
          go_ret
          exact ⟨ret_int HZ2.out.symm, L1⟩
        · have HZ2 := Lib.hid (HZ.out.trans h)
          have hl : Op.bytesLess s.toList s'.toList = false := by rw [hless, h]; rfl
          have he : (s.toList == s'.toList) = false := by rw [heqs, h]; rfl
          clear hless heqs h
          go_wp2_with fail
          go_ret
          exact ⟨ret_int HZ2.out.symm, L1⟩
    · have HZ := Lib.hid ((HF.out (by omega)).trans (cmpI_gt hgt))
      have hnl : ¬ x < y := by omega
      have hne : (x == y) = false := by simp; omega
      clear hx3 hy3
      go_wp2_with fail
      go_ret
      exact ⟨ret_int HZ.out.symm, L1⟩
end Go.Proofs.YtkdpjocglfephaaDoor

/- A region that draws its order: a call that tells the same in every later world may be taken first (the world may move on behind every operation). -/


namespace Go.Proofs.YtkdpjocglfephaaDoor
open Go
set_option linter.unusedVariables false

section
variable {P : Program} {ops : Array Oper} {Q : Exit → Act → World → Prop} {md : Region.Mode} {S : World → Prop} {R : World → World → Prop}

/-- Whatever order is picked from here on, and wherever the world has moved on to behind every operation. -/
def wpAnyK (P : Program) (md : Region.Mode) (ops : Array Oper) (Q : Exit → Act → World → Prop) (S : World → Prop) (R : World → World → Prop) : Nat → Array Bool → Act → World → Prop
  | 0, listed, a, w => Region.ready md ops listed = [] ∧ Q .normal a w
  | fuel + 1, listed, a, w =>
    (Region.ready md ops listed = [] → Q .normal a w) ∧
    ∀ i ∈ Region.ready md ops listed, wpOp P ops Q i (fun a' w' => S w' ∧ ∀ w'', R w' w'' → wpAnyK P md ops Q S R fuel (listed.setIfInBounds i true) a' w'') a w

theorem wpAny_of_K (hr : ∀ w, R w w) : ∀ (fuel : Nat) (listed : Array Bool) (a : Act) (w : World), wpAnyK P md ops Q S R fuel listed a w → wpAny P md ops Q fuel listed a w
  | 0, _, _, _, h => h
  | fuel + 1, _, _, _, h => ⟨h.1, fun i hi => wpOp_mono (fun a' w' h' => wpAny_of_K hr fuel _ a' w' (h'.2 w' (hr w'))) (h.2 i hi)⟩

/-- In state 'a', in every world that meets S, operation 'o' calls a function that tells 'v' and leaves all as it was, but for new memory. -/
def YieldsC (P : Program) (ops : Array Oper) (S : World → Prop) (R : World → World → Prop) (o : Oper) (v : Value) (a : Act) : Prop :=
  Region.wanted o (yielded ops a.tmps) = true ∧ ∃ f args, ∀ w, S w → (execOp a.eval o).run P w = .ok (.enter f args) w ∧ Calls P f args w fun e w' => e = .returned v ∧ R w w'
/-- It yields quietly, or by such a call. -/
def YieldsE (P : Program) (ops : Array Oper) (S : World → Prop) (R : World → World → Prop) (o : Oper) (v : Value) (a : Act) : Prop := YieldsIf P ops S o v a ∨ YieldsC P ops S R o v a

theorem YieldsE.of_same {o : Oper} {v : Value} {a a' : Act} (hy : YieldsE P ops S R o v a) (he : execOp a'.eval o = execOp a.eval o)
    (hw : Region.wanted o (yielded ops a'.tmps) = Region.wanted o (yielded ops a.tmps)) : YieldsE P ops S R o v a' := by
  rcases hy with hy | hy
  · exact .inl (hy.of_same he hw)
  · refine .inr ?_
    unfold YieldsC at *
    rw [he, hw]
    exact hy
theorem YieldsE.wpOp (hr : ∀ w, R w w) {i : Nat} {o : Oper} {v : Value} {a : Act} (hi : ops[i]? = some o) (hy : YieldsE P ops S R o v a)
    {K : Act → World → Prop} {w : World} (hS : S w) (h : ∀ w', R w w' → K (a.put o.dst v) w') : Go.wpOp P ops Q i K a w := by
  rcases hy with hy | ⟨hw, f, args, hv⟩
  · exact hy.wpOp hi hS (h w (hr w))
  · unfold Go.wpOp
    obtain ⟨h1, h2⟩ := hv w hS
    simp only [hi, hw, if_true, Oper.wp, h1, Oper.upon]
    refine .inl (Calls.mono h2 fun e w'' he => ?_)
    obtain ⟨rfl, hR⟩ := he
    exact h w'' hR
theorem wpOp_putE {j : Nat} {oi oj : Oper} {v : Value} (hj : ops[j]? = some oj) (hap : oi.apart ops oj = true)
    (hsi : ∀ cs b, oi.op ≠ .select cs b) (hsj : ∀ cs b, oj.op ≠ .select cs b)
    (hQ : ∀ c a w, Q (.panic c) (a.put oi.dst v) w → Q (.panic c) a w) {K : Act → World → Prop} {a : Act} {w : World}
    (hy : YieldsE P ops S R oi v a) (h : wpOp P ops Q j K (a.put oi.dst v) w) :
    wpOp P ops Q j (fun a' w' => YieldsE P ops S R oi v a' ∧ K (a'.put oi.dst v) w') a w := by
  obtain ⟨h1, h2, h3⟩ := Oper.apart_spec hap
  have keep : ∀ (a : Act), YieldsE P ops S R oi v a → ∀ u, YieldsE P ops S R oi v (a.put oj.dst u) := fun a hy u =>
    hy.of_same (execOp_put oi hsi a oj.dst u h3) (wanted_put oi a oj.dst u h3)
  have keepD : ∀ d, YieldsE P ops S R oi v { a with defers := d :: a.defers } := fun d => hy.of_same rfl rfl
  unfold wpOp at *
  simp only [hj] at *
  rw [wanted_put oj a oi.dst v h1] at h
  split
  · rename_i hw
    simp only [hw, if_true] at h
    rcases h with h | ⟨hasks, hlets⟩
    case inr => exact .inr ⟨by unfold Oper.asks at *; rw [execOp_put oj hsj a oi.dst v h1] at hasks; exact hasks, hlets⟩
    refine .inl ?_
    unfold Oper.wp at *
    rw [execOp_put oj hsj a oi.dst v h1] at h
    generalize (execOp a.eval oj).run P w = r at *
    cases r with
    | ok n w' =>
      cases n <;> simp only [Oper.upon] at h ⊢
      case value u => exact ⟨keep a hy u, by rw [← Act.put_comm a v u h2]; exact h⟩
      case skip => exact ⟨keep a hy _, by rw [← Act.put_comm a v undef h2]; exact h⟩
      case defer d =>
        refine ⟨keep _ (keepD d) _, ?_⟩
        rw [← Act.put_comm _ v undef h2, ← Act.put_defers]
        exact h
      case enter f args =>
        refine Calls.mono h fun e w'' he => ?_
        cases e with
        | returned u => exact ⟨keep a hy u, by rw [← Act.put_comm a v u h2]; exact he⟩
        | panicked c => exact hQ _ _ _ he
        | outgrown => exact he
      case row row args => exact Rows.mono h fun u w'' he => ⟨keep a hy u, by rw [← Act.put_comm a v u h2]; exact he⟩
    | halt x w' =>
      cases x <;> simp only [Oper.upon] at h ⊢
      case panic u => exact hQ _ _ _ h
  · rename_i hw
    simp only [hw] at h
    exact ⟨keep a hy _, by rw [← Act.put_comm a v undef h2]; exact h⟩

theorem wpAnyK_first (hrf : ∀ w, R w w) (hrt : ∀ a b c, R a b → R b c → R a c) (hSR : ∀ w w', S w → R w w' → S w') {i : Nat} {oi : Oper} {v : Value} (hi : ops[i]? = some oi) (hsel : ∀ (j : Nat) (o : Oper) cs b, ops[j]? = some o → o.op ≠ .select cs b)
    (hQ : ∀ c a w, Q (.panic c) (a.put oi.dst v) w → Q (.panic c) a w) :
    ∀ (fuel : Nat) (listed : Array Bool) (a : Act) (w : World),
      (∀ j oj, ops[j]? = some oj → j ≠ i → listed.getD j true = false → (∀ e ∈ oj.after, Region.binds md e = true → e.on ≠ i) → oi.apart ops oj = true) →
      i ∈ Region.ready md ops listed → YieldsE P ops S R oi v a → S w →
      (∀ w', R w w' → wpAnyK P md ops Q S R fuel (listed.setIfInBounds i true) (a.put oi.dst v) w') → wpAnyK P md ops Q S R (fuel + 1) listed a w := by
  intro fuel
  induction fuel with
  | zero =>
    intro listed a w _ hr hy hS H
    refine ⟨fun h => (by rw [h] at hr; cases hr), fun j hj => ?_⟩
    by_cases hji : j = i
    · subst hji; exact hy.wpOp hrf hi hS fun w' hw' => ⟨hSR w w' hS hw', fun w'' h'' => H w'' (hrt _ _ _ hw' h'')⟩
    · have := ready_mono hj hji
      rw [(H w (hrf w)).1] at this
      cases this
  | succ fuel ih =>
    intro listed a w hfree hr hy hS H
    refine ⟨fun h => (by rw [h] at hr; cases hr), fun j hj => ?_⟩
    by_cases hji : j = i
    · subst hji; exact hy.wpOp hrf hi hS fun w' hw' => ⟨hSR w w' hS hw', fun w'' h'' => H w'' (hrt _ _ _ hw' h'')⟩
    · have h1 := (H w (hrf w)).2 j (ready_mono hj hji)
      obtain ⟨hjun, oj, hoj, hall⟩ := mem_ready.1 hj
      have hnot : ∀ e ∈ oj.after, Region.binds md e = true → e.on ≠ i := fun e he hb heq => by
        have h1 := hall e he hb
        have h0 := (mem_ready.1 hr).1
        rw [heq] at h1
        rcases Nat.lt_or_ge i listed.size with h' | h'
        · simp [h'] at h0 h1; rw [h0] at h1; cases h1
        · simp [Array.getElem?_eq_none h'] at h1
      have h2 := wpOp_putE hoj (hfree j oj hoj hji hjun hnot) (fun cs b => hsel i oi cs b hi) (fun cs b => hsel j oj cs b hoj) hQ hy h1
      have hfree' : ∀ k ok, ops[k]? = some ok → k ≠ i → (listed.setIfInBounds j true).getD k true = false →
          (∀ e ∈ ok.after, Region.binds md e = true → e.on ≠ i) → oi.apart ops ok = true := fun k ok hk hki hun hno => by
        refine hfree k ok hk hki ?_ hno
        by_cases hjk : j = k
        · subst hjk; exact hjun
        · rw [getD_set_ne true hjk] at hun; exact hun
      refine wpOp_mono (fun a' w' h3 => ⟨h3.2.1, fun w'' hR => ih (listed.setIfInBounds j true) a' w'' hfree' (ready_mono hr (Ne.symm hji)) h3.1 (hSR _ _ h3.2.1 hR) fun w3 hR3 => ?_⟩) h2
      rw [Array.setIfInBounds_comm _ _ hji]
      exact h3.2.2 w3 (hrt _ _ _ hR hR3)

/-- Take number 'i' first. -/
theorem wpAnyK_take (hrf : ∀ w, R w w) (hrt : ∀ a b c, R a b → R b c → R a c) (hSR : ∀ w w', S w → R w w' → S w') {i : Nat} {oi : Oper} {v : Value} {fuel : Nat} {listed : Array Bool} {a : Act} {w : World} (hi : ops[i]? = some oi)
    (hs : Region.noSelect ops = true) (hf : Region.free md ops listed i = true) (hr : (Region.ready md ops listed).contains i = true)
    (hQ : ∀ c a w, Q (.panic c) (a.put oi.dst v) w → Q (.panic c) a w) (hy : YieldsE P ops S R oi v a) (hS : S w)
    (h : ∀ w', R w w' → wpAnyK P md ops Q S R fuel (listed.setIfInBounds i true) (a.put oi.dst v) w') : wpAnyK P md ops Q S R (fuel + 1) listed a w :=
  wpAnyK_first hrf hrt hSR hi (Region.noSelect_spec hs) hQ fuel listed a w (Region.free_spec hi hf) (by simpa using hr) hy hS h
theorem wpAnyK_all {rs : List Nat} {fuel : Nat} {listed : Array Bool} {a : Act} {w : World} (hr : Region.ready md ops listed = rs) (hne : rs ≠ [])
    (h : ∀ i ∈ rs, wpOp P ops Q i (fun a' w' => S w' ∧ ∀ w'', R w' w'' → wpAnyK P md ops Q S R fuel (listed.setIfInBounds i true) a' w'') a w) : wpAnyK P md ops Q S R (fuel + 1) listed a w :=
  ⟨fun h0 => absurd (hr ▸ h0) hne, hr ▸ h⟩
theorem wpAnyK_done {listed : Array Bool} {a : Act} {w : World} (hr : Region.ready md ops listed = []) (h : Q .normal a w) :
    ∀ fuel, wpAnyK P md ops Q S R fuel listed a w
  | 0 => ⟨hr, h⟩
  | _ + 1 => ⟨fun _ => h, by rw [hr]; simp⟩
theorem wp_region_K (hrf : ∀ w, R w w) {id : Nat} {a : Act} {w : World} (hm : P.follows .mixedOrders = true)
    (h : wpAnyK P .any ops Q S R ops.size (Array.replicate ops.size false) a w.drew) : (Code.region id ops true).wp P Q a w :=
  wp_region_any hm (wpAny_of_K hrf _ _ _ _ h)
/-- One of those that may come up. -/
theorem stepK {fuel : Nat} {listed : Array Bool} {a : Act} {w : World} {i : Nat} {o : Oper} (ho : ops[i]? = some o)
    (h : ∀ K' : Act → World → Prop, (∀ a w, S w → (∀ w', R w w' → wpAnyK P md ops Q S R fuel (listed.setIfInBounds i true) a w') → K' a w) → if Region.wanted o (yielded ops a.tmps) = true then Oper.wp P o a w K' Q else K' (a.put o.dst undef) w) :
    wpOp P ops Q i (fun a' w' => S w' ∧ ∀ w'', R w' w'' → wpAnyK P md ops Q S R fuel (listed.setIfInBounds i true) a' w'') a w :=
  wpOp_step ho fun K' hK => h K' fun a w hS hW => hK a w ⟨hS, hW⟩
end
end Go.Proofs.YtkdpjocglfephaaDoor

/- The document's alike and before. (tools/gen_reford.py) -/





namespace Go.Proofs.YtkdpjocglfephaaDoor
open Go.RowKit
set_option linter.unusedVariables false

set_option maxRecDepth 100000 in
set_option maxHeartbeats 4000000 in
theorem refAlike_any (A B Bp : Option Addr) (an ac bn bc kn kc : Nat) (a b : List Val3) (bys : List Int) (w : World) (han : an = a.length) (hbn : bn = b.length) (hkn : kn = bys.length) (hal : a.length ≤ 1000) (hbl : b.length ≤ 1000) (hkl : bys.length ≤ 1000) (ha : Has w A (fl a)) (hb : Has w B (fl b)) (hk : Has w Bp (iin bys))
    (hin : ∀ c ∈ bys, 0 ≤ c ∧ c < (a.length : Int) ∧ c < (b.length : Int)) :
    Calls Tryd.prog 41 #[.slice A an ac, .slice B bn bc, .slice Bp kn kc] w (TellsP (∀ c ∈ bys, cmp3 (a.getD c.toNat z3) (b.getD c.toNat z3) = 0) w) := by
  subst han hbn hkn
  have HA := Lib.hid ha
  have HB := Lib.hid hb
  have HK := Lib.hid hk
  have HIN := Lib.hid hin
  have HI0 := Lib.hid (CkI.mk (P := fun c => cmp3 (a.getD c.toNat z3) (b.getD c.toNat z3) = 0) (l := bys) (w := w) (wr := w) 0 0 rfl (Nat.zero_le _) (by intro c hc; simp at hc) (Later.refl _))
  clear ha hb hk hin
  go_enter Tryd.func41, Tryd.ntmps41
  go_wp2_with fail
  go_loopw [7] (fun iv wr => CkI (fun c => cmp3 (a.getD c.toNat z3) (b.getD c.toNat z3) = 0) bys w iv wr) (fun i _ => bys.length - (intOf i).toNat)
  case atStart => exact HI0.out
  case round =>
    obtain ⟨k, rfl, hk, hall, lat⟩ := hrel
    have HALL := Lib.hid hall
    have HLAT := Lib.hid lat
    clear HI0 hall
    by_cases hlt : k < bys.length
    · have hkz : (k : Int) < (bys.length : Int) := by omega
      obtain ⟨pb, po, hBp, cb⟩ := (HK.out.later lat).iin k hlt
      subst hBp
      have HTA := Lib.hid (fun (h : cmp3 (a.getD (bys[k]).toNat z3) (b.getD (bys[k]).toNat z3) = 0) => take_all (P := fun c => cmp3 (a.getD c.toNat z3) (b.getD c.toNat z3) = 0) HALL.out hlt h)
      have HMEM := Lib.hid (List.getElem_mem hlt)
      obtain ⟨hc0, hc1, hc2⟩ := HIN.out _ (List.getElem_mem hlt)
      generalize bys[k] = c at cb HTA hc0 hc1 hc2 HMEM
      obtain ⟨cn, rfl⟩ := Int.eq_ofNat_of_zero_le hc0
      have ha' : cn < a.length := by omega
      have hb' : cn < b.length := by omega
      have hcz : (0 : Int) ≤ (cn : Int) := by omega
      have hca : (cn : Int) < (a.length : Int) := by omega
      have hcb : (cn : Int) < (b.length : Int) := by omega
      have hga : a.getD cn z3 = (a[cn].1, a[cn].2.1, a[cn].2.2) := by rw [List.getD_eq_getElem?_getD, List.getElem?_eq_getElem ha']; rfl
      have hgb : b.getD cn z3 = (b[cn].1, b[cn].2.1, b[cn].2.2) := by rw [List.getD_eq_getElem?_getD, List.getElem?_eq_getElem hb']; rfl
      obtain ⟨ab, ao, hA, x0, x1, x2⟩ := (HA.out.later lat).val3 cn ha'
      subst hA
      obtain ⟨bb, bo, hB, y0, y1, y2⟩ := (HB.out.later lat).val3 cn hb'
      subst hB
      rw [Int.toNat_natCast, hga, hgb] at HTA
      have HNO := Lib.hid (fun (h : ¬ cmp3 (a[cn].1, a[cn].2.1, a[cn].2.2) (b[cn].1, b[cn].2.1, b[cn].2.2) = 0) (hall : ∀ c ∈ bys, cmp3 (a.getD c.toNat z3) (b.getD c.toNat z3) = 0) => h (by have h1 := hall _ HMEM.out; rw [Int.toNat_natCast, hga, hgb] at h1; exact h1))
      clear hga hgb hc0 hc1 hc2 hcz HMEM HALL
      generalize a[cn].1 = t at x0 HTA HNO
      generalize a[cn].2.1 = i at x1 HTA HNO
      generalize a[cn].2.2 = s at x2 HTA HNO
      generalize b[cn].1 = t' at y0 HTA HNO
      generalize b[cn].2.1 = i' at y1 HTA HNO
      generalize b[cn].2.2 = s' at y2 HTA HNO
      have HC := Lib.hid (fun (W : World) (l : Later wr W) => refCmp_any t i s t' i' s' W)
      have HCB := Lib.hid (show CellIs wr _ _ from cb)
      have HX0 := Lib.hid (show CellIs wr _ _ from x0)
      have HX1 := Lib.hid (show CellIs wr _ _ from x1)
      have HX2 := Lib.hid (show CellIs wr _ _ from x2)
      have HY0 := Lib.hid (show CellIs wr _ _ from y0)
      have HY1 := Lib.hid (show CellIs wr _ _ from y1)
      have HY2 := Lib.hid (show CellIs wr _ _ from y2)
      obtain ⟨v, hv⟩ : ∃ v, cmp3 (t, i, s) (t', i', s') = v := ⟨_, rfl⟩
      have hv' : cmpV t i s t' i' s' = v := hv
      rw [hv] at HTA HNO
      rw [hv'] at HC
      clear hv hv' cb x0 x1 x2 y0 y1 y2 lat ha' hb'
      go_upto_region 4 with fail
      go_cut [29] from 14 to 29 (fun cv wx => cv = .bool (v != 0) ∧ Later wr wx)
      case first => as_aux_lemma =>
        refine wp_region_K (S := fun W : World => Later wr W) (R := Later) (fun _ => Later.refl _) (by kernel_rfl) ?_
        have hS : (fun W : World => Later wr W) wr.drew := (Later.refl wr).drew
        refine wpAnyK_take Later.refl (fun _ _ _ h k => h.trans k) (fun _ _ h k => h.trans k) (i := 0) (oi := { dst := some 14, op := _, type := _, pos := _, after := _, guard := _ }) (v := ?_) rfl (by kernel_rfl) (by kernel_rfl) (by kernel_rfl) (fun _ _ _ h => h) (Or.inl (Or.inl ⟨by rfl, ?_⟩)) hS ?_
        rotate_left
        focus ((intro w hSw; (try dsimp only at hSw); skip; go_simp); (try with_reducible rfl))
        intro wq hwq
        replace hS := hS.trans hwq
        (try simp only [Act.put, List.setIfInBounds_toArray, List.set_cons_zero, List.set_cons_succ])
        clear hwq
        refine wpAnyK_take Later.refl (fun _ _ _ h k => h.trans k) (fun _ _ h k => h.trans k) (i := 1) (oi := { dst := some 15, op := _, type := _, pos := _, after := _, guard := _ }) (v := ?_) rfl (by kernel_rfl) (by kernel_rfl) (by kernel_rfl) (fun _ _ _ h => h) (Or.inl (Or.inl ⟨by rfl, ?_⟩)) hS ?_
        rotate_left
        focus ((intro w hSw; (try dsimp only at hSw); skip; go_simp); (try with_reducible rfl))
        intro wq hwq
        replace hS := hS.trans hwq
        (try simp only [Act.put, List.setIfInBounds_toArray, List.set_cons_zero, List.set_cons_succ])
        clear hwq
        refine wpAnyK_take Later.refl (fun _ _ _ h k => h.trans k) (fun _ _ h k => h.trans k) (i := 2) (oi := { dst := some 16, op := _, type := _, pos := _, after := _, guard := _ }) (v := ?_) rfl (by kernel_rfl) (by kernel_rfl) (by kernel_rfl) (fun _ _ _ h => h) (Or.inl (Or.inl ⟨by rfl, ?_⟩)) hS ?_
        rotate_left
        focus ((intro w hSw; (try dsimp only at hSw); skip; go_simp); (try with_reducible rfl))
        intro wq hwq
        replace hS := hS.trans hwq
        (try simp only [Act.put, List.setIfInBounds_toArray, List.set_cons_zero, List.set_cons_succ])
        clear hwq
        refine wpAnyK_take Later.refl (fun _ _ _ h k => h.trans k) (fun _ _ h k => h.trans k) (i := 3) (oi := { dst := some 17, op := _, type := _, pos := _, after := _, guard := _ }) (v := ?_) rfl (by kernel_rfl) (by kernel_rfl) (by kernel_rfl) (fun _ _ _ h => h) (Or.inl (Or.inl ⟨by rfl, ?_⟩)) hS ?_
        rotate_left
        focus ((intro w hSw; (try dsimp only at hSw); skip; go_simp); (try with_reducible rfl))
        intro wq hwq
        replace hS := hS.trans hwq
        (try simp only [Act.put, List.setIfInBounds_toArray, List.set_cons_zero, List.set_cons_succ])
        clear hwq
        refine wpAnyK_take Later.refl (fun _ _ _ h k => h.trans k) (fun _ _ h k => h.trans k) (i := 4) (oi := { dst := some 18, op := _, type := _, pos := _, after := _, guard := _ }) (v := ?_) rfl (by kernel_rfl) (by kernel_rfl) (by kernel_rfl) (fun _ _ _ h => h) (Or.inl (Or.inl ⟨by rfl, ?_⟩)) hS ?_
        rotate_left
        focus ((intro w hSw; (try dsimp only at hSw); have c := HCB.out.later hSw; have c := c.out; go_simp); (try with_reducible rfl))
        intro wq hwq
        replace hS := hS.trans hwq
        (try simp only [Act.put, List.setIfInBounds_toArray, List.set_cons_zero, List.set_cons_succ])
        clear hwq
        refine wpAnyK_take Later.refl (fun _ _ _ h k => h.trans k) (fun _ _ h k => h.trans k) (i := 5) (oi := { dst := some 19, op := _, type := _, pos := _, after := _, guard := _ }) (v := ?_) rfl (by kernel_rfl) (by kernel_rfl) (by kernel_rfl) (fun _ _ _ h => h) (Or.inl (Or.inl ⟨by rfl, ?_⟩)) hS ?_
        rotate_left
        focus ((intro w hSw; (try dsimp only at hSw); skip; go_simp); (try with_reducible rfl))
        intro wq hwq
        replace hS := hS.trans hwq
        (try simp only [Act.put, List.setIfInBounds_toArray, List.set_cons_zero, List.set_cons_succ])
        clear hwq
        refine wpAnyK_take Later.refl (fun _ _ _ h k => h.trans k) (fun _ _ h k => h.trans k) (i := 6) (oi := { dst := some 20, op := _, type := _, pos := _, after := _, guard := _ }) (v := ?_) rfl (by kernel_rfl) (by kernel_rfl) (by kernel_rfl) (fun _ _ _ h => h) (Or.inl (Or.inl ⟨by rfl, ?_⟩)) hS ?_
        rotate_left
        focus ((intro w hSw; (try dsimp only at hSw); have e0 := HX0.out.later hSw; have e0 := e0.out; have e1 := HX1.out.later hSw; have e1 := e1.out; have e2 := HX2.out.later hSw; have e2 := e2.out; go_simp); (try with_reducible rfl))
        intro wq hwq
        replace hS := hS.trans hwq
        (try simp only [Act.put, List.setIfInBounds_toArray, List.set_cons_zero, List.set_cons_succ])
        clear hwq
        refine wpAnyK_take Later.refl (fun _ _ _ h k => h.trans k) (fun _ _ h k => h.trans k) (i := 7) (oi := { dst := some 21, op := _, type := _, pos := _, after := _, guard := _ }) (v := ?_) rfl (by kernel_rfl) (by kernel_rfl) (by kernel_rfl) (fun _ _ _ h => h) (Or.inl (Or.inl ⟨by rfl, ?_⟩)) hS ?_
        rotate_left
        focus ((intro w hSw; (try dsimp only at hSw); skip; go_simp); (try with_reducible rfl))
        intro wq hwq
        replace hS := hS.trans hwq
        (try simp only [Act.put, List.setIfInBounds_toArray, List.set_cons_zero, List.set_cons_succ])
        clear hwq
        refine wpAnyK_take Later.refl (fun _ _ _ h k => h.trans k) (fun _ _ h k => h.trans k) (i := 8) (oi := { dst := some 22, op := _, type := _, pos := _, after := _, guard := _ }) (v := ?_) rfl (by kernel_rfl) (by kernel_rfl) (by kernel_rfl) (fun _ _ _ h => h) (Or.inl (Or.inl ⟨by rfl, ?_⟩)) hS ?_
        rotate_left
        focus ((intro w hSw; (try dsimp only at hSw); skip; go_simp); (try with_reducible rfl))
        intro wq hwq
        replace hS := hS.trans hwq
        (try simp only [Act.put, List.setIfInBounds_toArray, List.set_cons_zero, List.set_cons_succ])
        clear hwq
        refine wpAnyK_take Later.refl (fun _ _ _ h k => h.trans k) (fun _ _ h k => h.trans k) (i := 9) (oi := { dst := some 23, op := _, type := _, pos := _, after := _, guard := _ }) (v := ?_) rfl (by kernel_rfl) (by kernel_rfl) (by kernel_rfl) (fun _ _ _ h => h) (Or.inl (Or.inl ⟨by rfl, ?_⟩)) hS ?_
        rotate_left
        focus ((intro w hSw; (try dsimp only at hSw); skip; go_simp); (try with_reducible rfl))
        intro wq hwq
        replace hS := hS.trans hwq
        (try simp only [Act.put, List.setIfInBounds_toArray, List.set_cons_zero, List.set_cons_succ])
        clear hwq
        refine wpAnyK_take Later.refl (fun _ _ _ h k => h.trans k) (fun _ _ h k => h.trans k) (i := 10) (oi := { dst := some 24, op := _, type := _, pos := _, after := _, guard := _ }) (v := ?_) rfl (by kernel_rfl) (by kernel_rfl) (by kernel_rfl) (fun _ _ _ h => h) (Or.inl (Or.inl ⟨by rfl, ?_⟩)) hS ?_
        rotate_left
        focus ((intro w hSw; (try dsimp only at hSw); skip; go_simp); (try with_reducible rfl))
        intro wq hwq
        replace hS := hS.trans hwq
        (try simp only [Act.put, List.setIfInBounds_toArray, List.set_cons_zero, List.set_cons_succ])
        clear hwq
        refine wpAnyK_take Later.refl (fun _ _ _ h k => h.trans k) (fun _ _ h k => h.trans k) (i := 11) (oi := { dst := some 25, op := _, type := _, pos := _, after := _, guard := _ }) (v := ?_) rfl (by kernel_rfl) (by kernel_rfl) (by kernel_rfl) (fun _ _ _ h => h) (Or.inl (Or.inl ⟨by rfl, ?_⟩)) hS ?_
        rotate_left
        focus ((intro w hSw; (try dsimp only at hSw); have c := HCB.out.later hSw; have c := c.out; go_simp); (try with_reducible rfl))
        intro wq hwq
        replace hS := hS.trans hwq
        (try simp only [Act.put, List.setIfInBounds_toArray, List.set_cons_zero, List.set_cons_succ])
        clear hwq
        refine wpAnyK_take Later.refl (fun _ _ _ h k => h.trans k) (fun _ _ h k => h.trans k) (i := 12) (oi := { dst := some 26, op := _, type := _, pos := _, after := _, guard := _ }) (v := ?_) rfl (by kernel_rfl) (by kernel_rfl) (by kernel_rfl) (fun _ _ _ h => h) (Or.inl (Or.inl ⟨by rfl, ?_⟩)) hS ?_
        rotate_left
        focus ((intro w hSw; (try dsimp only at hSw); skip; go_simp); (try with_reducible rfl))
        intro wq hwq
        replace hS := hS.trans hwq
        (try simp only [Act.put, List.setIfInBounds_toArray, List.set_cons_zero, List.set_cons_succ])
        clear hwq
        refine wpAnyK_take Later.refl (fun _ _ _ h k => h.trans k) (fun _ _ h k => h.trans k) (i := 13) (oi := { dst := some 27, op := _, type := _, pos := _, after := _, guard := _ }) (v := ?_) rfl (by kernel_rfl) (by kernel_rfl) (by kernel_rfl) (fun _ _ _ h => h) (Or.inl (Or.inl ⟨by rfl, ?_⟩)) hS ?_
        rotate_left
        focus ((intro w hSw; (try dsimp only at hSw); have e0 := HY0.out.later hSw; have e0 := e0.out; have e1 := HY1.out.later hSw; have e1 := e1.out; have e2 := HY2.out.later hSw; have e2 := e2.out; go_simp); (try with_reducible rfl))
        intro wq hwq
        replace hS := hS.trans hwq
        (try simp only [Act.put, List.setIfInBounds_toArray, List.set_cons_zero, List.set_cons_succ])
        clear hwq
        refine wpAnyK_take Later.refl (fun _ _ _ h k => h.trans k) (fun _ _ h k => h.trans k) (i := 14) (oi := { dst := some 28, op := _, type := _, pos := _, after := _, guard := _ }) (v := .int .i64 v) rfl (by kernel_rfl) (by kernel_rfl) (by kernel_rfl) (fun _ _ _ h => h) (Or.inr ⟨by rfl, 26, #[.agg #[.int .i64 t, .int .i64 i, .string s], .agg #[.int .i64 t', .int .i64 i', .string s']], fun W hW => ⟨?_, HC.out W hW⟩⟩) hS ?_
        · first | rfl | (go_simp; done)
        intro wq hwq
        replace hS := hS.trans hwq
        (try simp only [Act.put, List.setIfInBounds_toArray, List.set_cons_zero, List.set_cons_succ])
        clear hwq
        refine wpAnyK_take Later.refl (fun _ _ _ h k => h.trans k) (fun _ _ h k => h.trans k) (i := 15) (oi := { dst := some 29, op := _, type := _, pos := _, after := _, guard := _ }) (v := ?_) rfl (by kernel_rfl) (by kernel_rfl) (by kernel_rfl) (fun _ _ _ h => h) (Or.inl (Or.inl ⟨by rfl, ?_⟩)) hS ?_
        rotate_left
        focus ((intro w hSw; (try dsimp only at hSw); skip; go_simp); (try with_reducible rfl))
        intro wq hwq
        replace hS := hS.trans hwq
        (try simp only [Act.put, List.setIfInBounds_toArray, List.set_cons_zero, List.set_cons_succ])
        clear hwq
        refine wpAnyK_done (by kernel_rfl) ?_ _
        go_wp2_with fail
        go_meet
        exact ⟨rfl, hS⟩
      case rest =>
      obtain ⟨rfl, lx⟩ := hcut
      have HLX := Lib.hid (HLAT.out.trans lx)
      clear lx HC HCB HX0 HX1 HX2 HY0 HY1 HY2 HLAT
      by_cases hv0 : v = 0
      · have hvb : (v != 0) = false := by simp [hv0]
        have HT := Lib.hid (HTA.out hv0)
        clear hv0 HTA HNO
        go_wp2_with fail
        go_roundw
        case rel => exact CkI.mk _ (k + 1) (by go_num) hlt HT.out HLX.out
        case measure => simp [intOf]; omega
      · have hvb : (v != 0) = true := by simp [hv0]
        have HT := Lib.hid (HNO.out hv0)
        clear hv0 HTA HNO
        go_wp2_with fail
        go_ret
        exact TellsP.f HT.out HLX.out
    · have hkz : ¬ (k : Int) < (bys.length : Int) := by omega
      have HT := Lib.hid (show ∀ c ∈ bys, cmp3 (a.getD c.toNat z3) (b.getD c.toNat z3) = 0 from by
        have h := HALL.out
        rw [show k = bys.length by omega, List.take_length] at h
        exact h)
      clear lat HALL
      go_wp2_with fail
      go_ret
      exact TellsP.t HT.out HLAT.out
end Go.Proofs.YtkdpjocglfephaaDoor
