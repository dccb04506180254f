
import Derived.Test.YtkdpjocglfephaaDoorPlayR
import Derived.Test.YtkdpjocglfephaaDoorBase
import Derived.Test.YtkdpjocglfephaaDoorPlayV
import Derived.Test.YtkdpjocglfephaaDoorPlayN
import Derived.Test.YtkdpjocglfephaaDoorBatR
import Derived.WalkKit
import Derived.Laws.OwnMore
import Derived.Laws.BytesArg
import Derived.Laws.Rows
import Derived.Deep.AppendLies
import Derived.Deep.Draws
import Derived.Test.YtkdpjocglfephaaDoorChecked
import Derived.Deep.OwnRows
import Derived.Lib.Hide
import Derived.Deep.Quiet
import Derived.Laws.AppendOwnNone
import Derived.Lib.Strings
import Derived.Outline
import Derived.WalkLawsBesides
import Derived.WalkSpells
import Derived.PlainAid
import Derived.Deep.QuietTactic
import Derived.BigQuiet
import Derived.RegionTactic
import Derived.BigRegion
import Derived.Handy
import Derived.Laws.BitsAllLaws
import Derived.Deep.RegionWith
import Derived.Lib.AppendStr
import Derived.Deep.RegionLaw
import Derived.Maps.AppendAt
import Derived.OpenShut
import Derived.WideShapes
import Derived.ChangeArms
import Derived.Deep.Slices
import Derived.Sort.Grow
import Derived.LaidEql
import Derived.Stop.Asserts
import Derived.RowKitTokens
import Derived.Laws.BitsLemmas
import Derived.Laws.Bits64
import Derived.WalkSmall
import Derived.Stop.IfaceNil
import Derived.Lib.Bytealg
import Derived.Deep.SlicePairs
import Derived.OrdersHeld
/- The walk of rabbetplay's Rows. -/

namespace Go.Proofs.YtkdpjocglfephaaDoor
open Go.RowKit
set_option linter.unusedVariables false

/-- A slice of values that lies above all that was there. -/
def SlV.above (base : Nat) (s : SlV) : Prop := ∀ b off, s.a = some ⟨b, off, none⟩ → base ≤ b
theorem RowsOn.far {base : Nat} {g : Nat} {w w' : World} {A : Option Addr} {n c : Nat} {ss : List SlV} (h : RowsOn base w A n c ss) (hf : Far g w w') (hb : g < base) (ha : ∀ s ∈ ss, s.above (g + 1)) : RowsOn base w' A n c ss := by
  refine ⟨h.1, hf.own hb h.2.1, fun s hs => ⟨?_, (h.2.2.1 s hs).2⟩, h.2.2.2⟩
  rcases (h.2.2.1 s hs).1 with hx | ⟨b, off, hA, hlt, hne, hc⟩
  · exact .inl hx
  · exact .inr ⟨b, off, hA, Nat.lt_of_lt_of_le hlt hf.size, hne, fun k v hv => by rw [cell_block (hf.2.2 b hlt (by have := ha s hs b off hA; omega))]; exact hc k v hv⟩
theorem own_at2 {w : World} {base : Nat} {e : TypeId} {k : Nat} {v : Value} {n : Nat} {xs : List Value} (h : w.ownsRow base e k v n xs) {q : Nat} (hq : v.ownBlock = some q) : base ≤ q ∧ q < w.heap.size := h.lt q hq
/-- Rows, as Row makes them. -/
def FitRs (xs : List Col3) (base : Nat) (ss : List SlV) : Prop := ∀ s ∈ ss, s.above base ∧ s.l.length = xs.length ∧ FitR xs s.l
def MadeRows (xs : List Col3) (N : Nat) (g : Nat) (A : Option Addr) (n c : Nat) (bs : List Nat) (w : World) (e : Ending) (w' : World) : Prop :=
  ∃ (ss : List SlV) (L : Option Addr) (lc : Nat), e = .returned (.slice L N lc) ∧ ss.length = N ∧ RowsOn w.heap.size w' L N lc ss ∧ FitRs xs w.heap.size ss ∧ Pks w' g A n c bs ∧ Far g w w'
/-- Where Rows' loop stands. -/
def RoJ (xs : List Col3) (N : Nat) (g : Nat) (A : Option Addr) (n c : Nat) (bs : List Nat) (V : Option Addr) (vc : Nat) (last : Int) (w : World) (lv iv : Value) (wr : World) : Prop :=
  ∃ (ss : List SlV) (L : Option Addr) (lc k : Nat), lv = .slice L k lc ∧ iv = .int .i64 k ∧ ss.length = k ∧ k ≤ N ∧ RowsOn (w.heap.size + 1) wr L k lc ss ∧ FitRs xs (w.heap.size + 1) ss ∧ Pks wr g A n c bs ∧ Far g w wr ∧ Blk wr w.heap.size #[.slice V xs.length vc, .int .i64 last] 33
theorem RoJ.mk {xs : List Col3} {N g : Nat} {A : Option Addr} {n c : Nat} {bs : List Nat} {V : Option Addr} {vc : Nat} {last : Int} {w wr : World} (y : Int) (ss : List SlV) (L : Option Addr) (m lc k : Nat) (hm : m = k) (hy : y = (k : Int)) (hk : ss.length = k) (hkN : k ≤ N) (ho : RowsOn (w.heap.size + 1) wr L m lc ss) (hf : FitRs xs (w.heap.size + 1) ss)
    (hp : Pks wr g A n c bs) (hF : Far g w wr) (hB : Blk wr w.heap.size #[.slice V xs.length vc, .int .i64 last] 33) : RoJ xs N g A n c bs V vc last w (.slice L m lc) (.int .i64 y) wr := by
  subst hy hm; exact ⟨ss, L, lc, m, rfl, rfl, hk, hkN, ho, hf, hp, hF, hB⟩

set_option maxRecDepth 100000 in
set_option maxHeartbeats 4000000 in
theorem rows_any (N : Nat) (g : Nat) (A : Option Addr) (n c : Nat) (bs : List Nat) (V : Option Addr) (vn vc : Nat) (last : Int) (xs : List Col3) (w : World) (hc : PkC n bs) (hp : Pks w g A n c bs) (hvn : vn = xs.length) (hl : vn ≤ 1000) (hN : N ≤ 1000) (hV : HasX (some g) w V (fc xs)) :
    Calls Tryd.prog 24 #[.pointer (some ⟨g, 0, none⟩), .agg #[.slice V vn vc, .int .i64 last], .int .i64 N] w (MadeRows xs N g A n c bs w) := by
  obtain ⟨h0, hh0⟩ : ∃ x, w.heap.size = x := ⟨_, rfl⟩
  obtain ⟨w1, hw1⟩ : ∃ x : World, w.alloc (.cells #[.slice V vn vc, .int .i64 last] 33) = x := ⟨_, rfl⟩
  have l1 : Later w w1 := hw1 ▸ Later.new w _
  have HI0 := Lib.hid (RoJ.mk (xs := xs) (N := N) (g := g) (A := A) (n := n) (c := c) (bs := bs) (V := V) (vc := vc) (last := last) (w := w) (wr := w1) 0 [] none 0 0 0 rfl rfl rfl (Nat.zero_le _) (RowsOn.nil_ _ _) (fun s hs => by cases hs) (hp.later l1) (Far.of hp.lt l1) (hvn ▸ hw1 ▸ Blk.new _ _ _ _ rfl))
  have HV := Lib.hid hV
  have HVN := Lib.hid hvn
  have HG := Lib.hid hp.lt
  have HS1 := Lib.hid (show w1.heap.size = h0 + 1 by rw [← hw1, ← hh0]; simp)
  clear l1 hp hV hvn
  go_enter Tryd.func24, Tryd.ntmps24
  go_wp2_with fail
  clear hw1
  go_loopw [7, 8] (fun lv iv wr => RoJ xs N g A n c bs V vc last w lv iv wr) (fun _ i _ => N - (intOf i).toNat)
  case atStart => exact HI0.out
  case round =>
    obtain ⟨ss, L, lc, k, rfl, rfl, hss, hkN, hon, hfit, hpk, hfar, hblk⟩ := hrel
    have HFIT := Lib.hid hfit
    have HBLK := Lib.hid hblk
    have HFAR := Lib.hid hfar
    have HSS := Lib.hid hss
    have HON := Lib.hid hon
    rw [← HVN.out, hh0] at hblk
    have c0 := hblk.cell 0 _ rfl
    have c1 := hblk.cell 1 _ rfl
    clear HI0 hfit hfar hblk hss hon
    by_cases hlt : k < N
    · have hkl : (k : Int) < (N : Int) := by omega
      have HRW := Lib.hid (row_any g A n c bs V vn vc last xs wr hc hpk HVN.out hl (HV.out.far HFAR.out))
      clear hpk
      go_wp2_with fail
      refine HRW.out.mono ?_
      rintro e wn ⟨row, R, rc, rfl, hrl, hfr, ho, hrn, hp2, hf2⟩
      have HP2 := Lib.hid hp2
      have HF2 := Lib.hid (HFAR.out.trans hf2)
      have HB2 := Lib.hid (hf2.blk HBLK.out (by have := HG.out; omega))
      have HABV := Lib.hid (fun s hs b off e => by have := (HFIT.out s hs).1 b off e; have := HG.out; omega : ∀ s ∈ ss, s.above (g + 1))
      have hon2 := HON.out.far hf2 (by have := HG.out; omega) HABV.out
      have HOKR := Lib.hid (show (⟨R, rc, row⟩ : SlV).okX (Value.slice L k lc).ownBlock wn from SlV.okX.own ho rfl hrn fun q hq => (HON.out.2.1.lt q hq).2)
      have HFR := Lib.hid (show SlV.above (w.heap.size + 1) ⟨R, rc, row⟩ ∧ row.length = xs.length ∧ FitR xs row from ⟨fun b off e => by
        have e : R = some ⟨b, off, none⟩ := e
        rw [e] at ho
        have := (own_at2 (q := b) ho rfl).1
        have := HFAR.out.size
        have := HBLK.out.lt
        omega, hrl, hfr⟩)
      have HOA := Lib.hid (fun (o : Obj) => hon2.later (Later.new wn o))
      have HOKA := Lib.hid (fun (o : Obj) => HOKR.out.later (Later.new wn o))
      have HSZ := Lib.hid (show w.heap.size + 1 ≤ wn.heap.size from HB2.out.lt)
      obtain ⟨rn, hrnn⟩ : ∃ x, row.length = x := ⟨_, rfl⟩
      have HRL := Lib.hid (show (⟨R, rc, row⟩ : SlV).v = .slice R rn rc by rw [SlV.v_eq, ← hrnn])
      have HBK := Lib.hid (fun (wz : World) => Blk.new wz #[.slice R rn rc] 56 wz.heap.size rfl)
      rw [hrnn]
      clear hp2 hf2 c0 c1 hon2 hrl hfr ho hrn HRW hrnn
      go_wp2_with (at_builtin; refine wpList_append_x _ rfl (.tmp 14) (.tmp 18) 67 rfl (w.heap.size + 1) 56 _ 1 24 Tryd.underlying67 info_row rfl (by decide) _ k _ rfl (HOA.out _).2.1 _ 0 1 1 [.slice R rn rc] rfl (HBK.out wn).has rfl (by intro u hu; rw [List.mem_singleton] at hu; subst hu; rfl) (by unfold maxLen; omega) (by omega) (by have := HSZ.out; simp; omega) ?_; rintro A' c' wq hO hgr hbel hat hn2; have HO2 := Lib.hid (RowsOn.more (s := ⟨R, rc, row⟩) (HOA.out _) (HOKA.out _) (by rw [HRL.out]; exact hO) hgr hat hn2); have HL2 := Lib.hid (((Later.new wn _).below.mono HSZ.out).trans hbel); clear hO hn2 hbel hgr hat)
      go_roundw
      all_goals first
        | exact RoJ.mk _ (ss ++ [⟨R, rc, row⟩]) _ _ _ (k + 1) (by omega) (by omega) (by rw [List.length_append, HSS.out]; rfl) (by omega) HO2.out (by intro s hs; rcases List.mem_append.1 hs with h | h; exact HFIT.out s h; rw [List.mem_singleton] at h; subst h; exact HFR.out) (HP2.out.below HL2.out (by have := HG.out; omega)) (HF2.out.below (HL2.out.mono (by omega))) ((HL2.out.block _ (Nat.lt_succ_self _)).trans HB2.out)
        | (simp [intOf]; done)
        | (simp [intOf]; omega)
    · have hkn : k = N := by omega
      have HKN := Lib.hid hkn
      clear hkn
      go_wp2_with fail
      go_ret
      have hk := HKN.out
      subst hk
      obtain ⟨o1, o2, o3, o4⟩ := HON.out
      refine ⟨ss, L, lc, rfl, HSS.out, ⟨o1, ?_, o3, o4⟩, fun s hs => ⟨fun b off e => by have := (HFIT.out s hs).1 b off e; omega, (HFIT.out s hs).2⟩, hpk, HFAR.out⟩
      obtain ⟨p1, p2⟩ := o2
      refine ⟨p1, ?_⟩
      rcases p2 with p2 | ⟨q, cap, cur, ha, hb, hrest⟩
      · exact .inl p2
      · exact .inr ⟨q, cap, cur, ha, by omega, hrest⟩
end Go.Proofs.YtkdpjocglfephaaDoor

/- A table of rows that grow: a slice of slices, each the call's own, none beside another. -/

namespace Go.Proofs.YtkdpjocglfephaaDoor
open Go.RowKit
set_option linter.unusedVariables false

theorem own_apart {w w' : World} {base : Nat} {e : TypeId} {k : Nat} {v : Value} {n : Nat} {xs : List Value} {row : Option Nat} (h : w.ownsRow base e k v n xs) (g : w.grownBy w' row) (hne : ∀ q, v.ownBlock = some q → some q ≠ row) : w'.ownsRow base e k v n xs := by
  obtain ⟨h1, h2⟩ := h
  refine ⟨h1, ?_⟩
  rcases h2 with h2 | ⟨q, cap, cur, rfl, hb, hg, hrest⟩
  · exact .inl h2
  · exact .inr ⟨q, cap, cur, rfl, hb, (g.block q (Array.getElem?_eq_some_iff.1 hg).1 (hne q rfl)).trans hg, hrest⟩
theorem own_setFar {w : World} {base : Nat} {e : TypeId} {k : Nat} {v : Value} {n : Nat} {xs : List Value} (h : w.ownsRow base e k v n xs) {p : Addr} (hp : p.block < base) (u : Value) : (w.setCell p u).ownsRow base e k v n xs := by
  obtain ⟨h1, h2⟩ := h
  refine ⟨h1, ?_⟩
  rcases h2 with h2 | ⟨q, cap, cur, rfl, hb, hg, hrest⟩
  · exact .inl h2
  · exact .inr ⟨q, cap, cur, rfl, hb, (Below.heap_setCell w p u q (by omega)).trans hg, hrest⟩

/-- A row: where it lies, how many elements, its room, its cells. -/
structure SlG where
  a : Option Addr
  n : Nat
  c : Nat
  cs : List Value
def SlG.v (s : SlG) : Value := .slice s.a s.n s.c
def SlG.nil : SlG := ⟨none, 0, 0, []⟩
def SlG.ok (base : Nat) (e : TypeId) (size : Nat) (w : World) (s : SlG) : Prop := w.ownsRow base e size s.v s.n s.cs ∧ (s.a = none → s.c = 0)
theorem SlG.ok.nil (base : Nat) (e : TypeId) (size : Nat) (w : World) : SlG.nil.ok base e size w := ⟨ownG_nil _ _ _ _, fun _ => rfl⟩
theorem SlG.ok.later {base : Nat} {e : TypeId} {size : Nat} {w w' : World} {s : SlG} (h : s.ok base e size w) (l : Later w w') : s.ok base e size w' := ⟨own_later h.1 l, h.2⟩

/-- Block g is a table of rows. -/
structure Tab (T e : TypeId) (size : Nat) (w : World) (g : Nat) (ss : List SlG) : Prop where
  blk : Blk w g (ss.map SlG.v).toArray T
  own : ∀ k (h : k < ss.length), ss[k].ok (g + 1) e size w
  apart : ∀ j k (hj : j < ss.length) (hk : k < ss.length), j ≠ k → ∀ q, ss[j].v.ownBlock = some q → ss[k].v.ownBlock ≠ some q
section
variable {T e : TypeId} {size g : Nat} {w w' : World} {ss : List SlG}
theorem Tab.later (h : Tab T e size w g ss) (l : Later w w') : Tab T e size w' g ss := ⟨h.blk.later l, fun k hk => (h.own k hk).later l, h.apart⟩
theorem Tab.lt (h : Tab T e size w g ss) : g < w.heap.size := h.blk.lt
theorem Tab.cell (h : Tab T e size w g ss) (k : Nat) (hk : k < ss.length) : w.cell? ⟨g, k, none⟩ = some (.slice ss[k].a ss[k].n ss[k].c) := h.blk.cell k _ (by
  rw [List.getElem?_toArray, List.getElem?_map, List.getElem?_eq_getElem hk]; rfl)
theorem Tab.frozen (h : Tab T e size w g ss) (k : Nat) : w.frozen? ⟨g, k, none⟩ = false := h.blk.frozen k
theorem Tab.new (w : World) (T e : TypeId) (size n : Nat) (g : Nat) (hg : g = w.heap.size) : Tab T e size (w.alloc (.cells (madeCells #[.slice none 0 0] n) T)) g (List.replicate n SlG.nil) := by
  refine ⟨?_, fun k hk => ?_, fun j k hj hk hne q hq => ?_⟩
  · have e : (madeCells #[Value.slice none 0 0] n) = (List.map SlG.v (List.replicate n SlG.nil)).toArray := by
      apply Array.ext'
      rw [toList_madeCells_one, List.map_replicate]; rfl
    rw [← e]
    exact Blk.new _ _ _ _ hg
  · rw [List.getElem_replicate]; exact SlG.ok.nil _ _ _ _
  · rw [List.getElem_replicate] at hq; cases hq
/-- A row has grown, its slice is laid in its place. -/
theorem Tab.put (h : Tab T e size w g ss) (k : Nat) (hk : k < ss.length) (s' : SlG) (ho : w'.ownsRow (g + 1) e size s'.v s'.n s'.cs) (hnil : s'.a = none → s'.c = 0) (hgr : w.grownBy w' ss[k].v.ownBlock)
    (hat : s'.v.ownBlock = ss[k].v.ownBlock ∨ s'.v.ownBlock = some w.heap.size) : Tab T e size (w'.setCell ⟨g, k, none⟩ s'.v) g (ss.set k s') := by
  have hgk : some g ≠ ss[k].v.ownBlock := by
    intro e
    have := ((h.own k hk).1.lt g e.symm).1
    omega
  refine ⟨?_, fun j hj => ?_, fun i j hi hj hne q hq => ?_⟩
  · have hb : Blk w' g (ss.map SlG.v).toArray T := (hgr.block g h.lt hgk).trans h.blk
    have := hb.set_ k s'.v
    rwa [List.setIfInBounds_toArray, ← List.map_set] at this
  · rw [List.length_set] at hj
    rw [List.getElem_set]
    split
    · exact ⟨own_setFar ho (Nat.lt_succ_self _) _, hnil⟩
    · rename_i hne
      refine ⟨own_setFar (own_apart (h.own j hj).1 hgr fun q hq e => ?_) (Nat.lt_succ_self _) _, (h.own j hj).2⟩
      exact h.apart j k hj hk (fun e => hne e.symm) q hq e.symm
  · rw [List.length_set] at hi hj
    rw [List.getElem_set] at hq ⊢
    split at hq
    · rename_i hik
      subst hik
      rw [if_neg hne]
      rcases hat with hat | hat
      · rw [hat] at hq
        exact h.apart k j hk hj hne q hq
      · rw [hat] at hq
        injection hq with hq
        subst hq
        intro e
        have := ((h.own j hj).1.lt _ e).2
        omega
    · split
      · rename_i hik hjk
        subst hjk
        rcases hat with hat | hat
        · rw [hat]; exact h.apart i k hi hk hne q hq
        · rw [hat]
          intro e
          injection e with e
          subst e
          have := ((h.own i hi).1.lt _ hq).2
          omega
      · exact h.apart i j hi hj hne q hq
/-- A row's cells are a column's. -/
theorem Tab.has (h : Tab T e size w g ss) (k : Nat) (hk : k < ss.length) : Has w ss[k].a ss[k].cs := by
  have := (h.own k hk).1
  unfold SlG.v at this
  exact Has.ownG this
end
/-- Columns out of a table. -/
def SlG.col (s : SlG) (l : List Val3) : SlV := ⟨s.a, s.c, l⟩
theorem Tab.rows {T : TypeId} {g : Nat} {w : World} {ss : List SlG} {L : List (List Val3)} (h : Tab T 26 3 w g ss) (hl : L.length = ss.length) (hL : ∀ k (h : k < ss.length) (h' : k < L.length), ss[k].cs = fl L[k] ∧ ss[k].n = L[k].length) :
    RowsAt w (some ⟨g, 0, none⟩) (List.zipWith SlG.col ss L) ∧ (List.zipWith SlG.col ss L).length = ss.length ∧ (List.zipWith SlG.col ss L).map (·.l) = L := by
  have hlen : (List.zipWith SlG.col ss L).length = ss.length := by rw [List.length_zipWith]; omega
  have hget : ∀ k (h : k < (List.zipWith SlG.col ss L).length), (List.zipWith SlG.col ss L)[k].v = (ss[k]'(by omega)).v := fun k hk => by
    rw [List.getElem_zipWith, SlV.v_eq]
    unfold SlG.v SlG.col
    rw [(hL k (by omega) (by omega)).2]
  refine ⟨⟨?_, fun s hs => ?_⟩, hlen, ?_⟩
  · have hm : (List.zipWith SlG.col ss L).map SlV.v = ss.map SlG.v := by
      refine List.ext_getElem (by rw [List.length_map, List.length_map, hlen]) fun k h1 h2 => ?_
      rw [List.getElem_map, List.getElem_map]
      exact hget k (by rw [List.length_map] at h1; exact h1)
    rw [hm]
    exact Blk.has h.blk
  · obtain ⟨k, hk, rfl⟩ := List.mem_iff_getElem.1 hs
    rw [hlen] at hk
    have hk2 : k < L.length := by omega
    obtain ⟨e1, e2⟩ := hL k hk hk2
    rw [List.getElem_zipWith]
    have ho := h.own k hk
    have ho1 := ho.1
    unfold SlG.v at ho1
    rw [e1, e2] at ho1
    show (⟨ss[k].a, ss[k].c, L[k]⟩ : SlV).okX none w
    exact SlV.okX.own ho1 rfl ho.2 (by simp)
  · refine List.ext_getElem (by rw [List.length_map, hlen]; omega) fun k h1 h2 => ?_
    rw [List.getElem_map, List.getElem_zipWith]; rfl
theorem Tab.rowsV {T : TypeId} {g : Nat} {w : World} {ss : List SlG} {L : List (List Val3)} (h : Tab T 26 3 w g ss) (hl : L.length = ss.length) (hL : ∀ k (h : k < ss.length) (h' : k < L.length), ss[k].cs = fl L[k] ∧ ss[k].n = L[k].length) :
    (List.zipWith SlG.col ss L).map SlV.v = ss.map SlG.v := by
  have hlen : (List.zipWith SlG.col ss L).length = ss.length := by rw [List.length_zipWith]; omega
  refine List.ext_getElem (by rw [List.length_map, List.length_map, hlen]) fun k h1 h2 => ?_
  rw [List.getElem_map, List.getElem_map, List.getElem_zipWith, SlV.v_eq]
  rw [List.length_map] at h1
  unfold SlG.v SlG.col
  rw [(hL k (by omega) (by omega)).2]
end Go.Proofs.YtkdpjocglfephaaDoor

/- How rows stand, exactly; bags; what Columns and Pick make: mathematics. -/


namespace Go.Proofs.YtkdpjocglfephaaDoor
open Go.RowKit
set_option linter.unusedVariables false

/-- A comparison of which 0 is the same. -/
structure CmpX {α : Type} (c : α → α → Int) : Prop where
  turn : ∀ x y, c y x = - c x y
  zero : ∀ x y, c x y = 0 → x = y
  trans : ∀ x y z, c x y ≤ 0 → c y z ≤ 0 → c x z ≤ 0
section
variable {α β : Type} {c : α → α → Int} {d : β → β → Int}
theorem CmpX.self (h : CmpX c) (x : α) : c x x = 0 := by have := h.turn x x; omega
theorem CmpX.strict (h : CmpX c) {x y z : α} (h1 : c x y < 0) (h2 : c y z ≤ 0) : c x z < 0 := by
  have h3 := h.trans x y z (by omega) h2
  rcases Int.lt_or_eq_of_le h3 with h4 | h4
  · exact h4
  · have := h.zero _ _ h4
    subst this
    have := h.turn x y
    omega
theorem CmpX.strict2 (h : CmpX c) {x y z : α} (h1 : c x y ≤ 0) (h2 : c y z < 0) : c x z < 0 := by
  have h3 := h.trans x y z h1 (by omega)
  rcases Int.lt_or_eq_of_le h3 with h4 | h4
  · exact h4
  · have := h.zero _ _ h4
    subst this
    have := h.turn x y
    omega
def listC (c : α → α → Int) : List α → List α → Int
  | [], [] => 0
  | [], _ :: _ => -1
  | _ :: _, [] => 1
  | x :: a, y :: b => if c x y ≠ 0 then c x y else listC c a b
theorem listC_turn (h : CmpX c) : ∀ a b, listC c b a = - listC c a b
  | [], [] => rfl
  | [], _ :: _ => rfl
  | _ :: _, [] => rfl
  | x :: a, y :: b => by
    unfold listC
    have := h.turn x y
    by_cases e : c x y = 0
    · rw [if_neg (by omega), if_neg (by omega)]; exact listC_turn h a b
    · rw [if_pos (by omega), if_pos (by omega)]; exact this
theorem listC_zero (h : CmpX c) : ∀ a b, listC c a b = 0 → a = b
  | [], [] => fun _ => rfl
  | [], _ :: _ => fun h => by cases h
  | _ :: _, [] => fun h => by cases h
  | x :: a, y :: b => by
    unfold listC
    intro e
    by_cases e1 : c x y = 0
    · rw [if_neg (by omega)] at e
      rw [h.zero _ _ e1, listC_zero h a b e]
    · rw [if_pos (by omega)] at e; exact absurd e e1
theorem listC_trans (h : CmpX c) : ∀ a b z, listC c a b ≤ 0 → listC c b z ≤ 0 → listC c a z ≤ 0
  | [], _, [] => fun _ _ => by unfold listC; omega
  | [], _, _ :: _ => fun _ _ => by unfold listC; omega
  | _ :: _, [], _ => fun h1 _ => by unfold listC at h1; omega
  | _ :: _, _ :: _, [] => fun _ h2 => by unfold listC at h2; omega
  | x :: a, y :: b, z :: r => by
    unfold listC
    intro h1 h2
    by_cases e1 : c x y = 0
    · by_cases e2 : c y z = 0
      · have ea := h.zero _ _ e1
        have eb := h.zero _ _ e2
        rw [if_neg (by omega)] at h1 h2
        rw [ea, eb, h.self, if_neg (by omega)]
        exact listC_trans h a b r h1 h2
      · rw [if_pos (by omega)] at h2
        have := h.strict2 (show c x y ≤ 0 by omega) (show c y z < 0 by omega)
        rw [if_pos (by omega)]; omega
    · rw [if_pos (by omega)] at h1
      have h3 : c y z ≤ 0 := by
        by_cases e2 : c y z = 0
        · omega
        · rw [if_pos (by omega)] at h2; exact h2
      have := h.strict (show c x y < 0 by omega) h3
      rw [if_pos (by omega)]; omega
theorem CmpX.list (h : CmpX c) : CmpX (listC c) := ⟨listC_turn h, listC_zero h, listC_trans h⟩
end
/-- A column of rows; all columns. -/
def colK (L : List (List Val3)) (c : Nat) : List Val3 := L.map fun r => r.getD c (0, 0, ⟨#[]⟩)
def colsT (L : List (List Val3)) (W : Nat) : List (List Val3) := (List.range W).map (colK L)
theorem colK_len (L : List (List Val3)) (c : Nat) : (colK L c).length = L.length := List.length_map _
theorem colsT_len (L : List (List Val3)) (W : Nat) : (colsT L W).length = W := by simp [colsT]
theorem colsT_get (L : List (List Val3)) (W c : Nat) (h : c < W) : (colsT L W)[c]'(by rw [colsT_len]; exact h) = colK L c := by simp [colsT]
theorem colK_succ (L : List (List Val3)) (c i : Nat) (h : i < L.length) : colK (L.take (i + 1)) c = colK (L.take i) c ++ [L[i].getD c (0, 0, ⟨#[]⟩)] := by
  unfold colK
  rw [List.take_succ_eq_append_getElem h, List.map_append]; rfl
section
variable {α : Type}
end
end Go.Proofs.YtkdpjocglfephaaDoor

/- Columns on their way, in a table; what Columns gives. -/


namespace Go.Proofs.YtkdpjocglfephaaDoor
open Go.RowKit
set_option linter.unusedVariables false

/-- Of each column so many rows are there. -/
def TabC (L : List (List Val3)) (W : Nat) (f : Nat → Nat) (ss : List SlG) : Prop := ss.length = W ∧ ∀ k (h : k < ss.length), ss[k].cs = fl (colK (L.take (f k)) k) ∧ ss[k].n = f k
section
variable {L : List (List Val3)} {W : Nat} {f f' : Nat → Nat} {ss : List SlG}
theorem TabC.new (L : List (List Val3)) (W : Nat) : TabC L W (fun _ => 0) (List.replicate W SlG.nil) := by
  refine ⟨List.length_replicate, fun k hk => ?_⟩
  rw [List.getElem_replicate]
  exact ⟨rfl, rfl⟩
theorem TabC.ext (h : TabC L W f ss) (e : ∀ k, k < W → f k = f' k) : TabC L W f' ss := ⟨h.1, fun k hk => by rw [← e k (by rw [← h.1]; exact hk)]; exact h.2 k hk⟩
theorem TabC.put (h : TabC L W f ss) (k : Nat) (hk : k < ss.length) (hf : f k < L.length) (s' : SlG) (x : Val3) (hx : L[f k].getD k (0, 0, ⟨#[]⟩) = x) (hc : s'.cs = ss[k].cs ++ fl [x]) (hn : s'.n = f k + 1) :
    TabC L W (fun j => if j = k then f k + 1 else f j) (ss.set k s') := by
  refine ⟨by rw [List.length_set]; exact h.1, fun j hj => ?_⟩
  rw [List.length_set] at hj
  rw [List.getElem_set]
  dsimp only
  by_cases e : k = j
  · subst e
    rw [if_pos rfl, if_pos rfl, hc, (h.2 k hk).1, colK_succ L k _ hf, fl_append, hx]
    exact ⟨rfl, hn⟩
  · rw [if_neg e, if_neg (fun h : j = k => e h.symm)]; exact h.2 j hj
theorem TabC.rows {g : Nat} {w : World} {T : TypeId} (h : TabC L W (fun _ => L.length) ss) (ht : Tab T 26 3 w g ss) :
    ∃ zs : List SlV, zs.length = W ∧ zs.map (·.l) = colsT L W ∧ RowsAt w (some ⟨g, 0, none⟩) zs ∧ (∀ s ∈ zs, ∀ b off, s.a = some ⟨b, off, none⟩ → g < b) ∧ zs.map SlV.v = ss.map SlG.v := by
  have hg : ∀ k (h1 : k < ss.length) (h2 : k < (colsT L W).length), ss[k].cs = fl (colsT L W)[k] ∧ ss[k].n = (colsT L W)[k].length := fun k hk hk' => by
    rw [colsT_get L W k (by rw [colsT_len] at hk'; exact hk'), colK_len]
    have := h.2 k hk
    rw [List.take_length] at this
    exact this
  obtain ⟨r1, r2, r3⟩ := ht.rows (L := colsT L W) (by rw [colsT_len, h.1]) hg
  refine ⟨_, by rw [r2, h.1], r3, r1, fun s hs b off hb => ?_, ht.rowsV (by rw [colsT_len, h.1]) hg⟩
  obtain ⟨k, hk, rfl⟩ := List.mem_iff_getElem.1 hs
  rw [r2] at hk
  rw [List.getElem_zipWith] at hb
  have ho := (ht.own k hk).1
  unfold SlG.v at ho
  have hb' : ss[k].a = some ⟨b, off, none⟩ := hb
  rw [hb'] at ho
  exact (ho.lt b rfl).1
end
/-- A row of a table that is about to grow by a value. -/
theorem TabC.step {T : TypeId} {L : List (List Val3)} {W : Nat} {f : Nat → Nat} {ss : List SlG} {g : Nat} {w : World} (h : TabC L W f ss) (ht : Tab T 26 3 w g ss) (k i : Nat) (hk : k < W) (hi : f k = i) (hil : i < L.length) (x : Val3) (hx : L[i].getD k (0, 0, ⟨#[]⟩) = x) :
    ∃ A c, w.cell? ⟨g, k, none⟩ = some (.slice A i c) ∧ w.ownsRow (g + 1) 26 3 (.slice A i c) i (fl (colK (L.take i) k)) ∧
      ∀ w1 w2 A' c', Later w w1 → w2.ownsRow (g + 1) 26 3 (.slice A' (i + 1) c') (i + 1) (fl (colK (L.take i) k) ++ fl [x]) → w1.grownBy w2 (Value.slice A i c).ownBlock →
        ((Value.slice A' (i + 1) c').ownBlock = (Value.slice A i c).ownBlock ∨ (Value.slice A' (i + 1) c').ownBlock = some w1.heap.size) → (A' = none → c' = 0) →
        ∃ ss', TabC L W (fun j => if j = k then i + 1 else f j) ss' ∧ Tab T 26 3 (w2.setCell ⟨g, k, none⟩ (.slice A' (i + 1) c')) g ss' := by
  subst hi
  have hks : k < ss.length := by rw [h.1]; exact hk
  obtain ⟨hc, hn⟩ := h.2 k hks
  have hcell := ht.cell k hks
  have hown := (ht.own k hks).1
  rw [hn] at hcell hown
  have hv : ss[k].v = .slice ss[k].a (f k) ss[k].c := by unfold SlG.v; rw [hn]
  rw [hv, hc] at hown
  refine ⟨ss[k].a, ss[k].c, hcell, hown, fun w1 w2 A' c' l ho hg hat hnil => ?_⟩
  rw [← hv] at hg hat
  exact ⟨_, h.put k hks hil ⟨A', f k + 1, c', fl (colK (L.take (f k)) k) ++ fl [x]⟩ x hx (by rw [hc]) rfl, (ht.later l).put k hks ⟨A', f k + 1, c', fl (colK (L.take (f k)) k) ++ fl [x]⟩ ho hnil hg hat⟩
/-- Columns: the slice of them the call's own, its block none of theirs. -/
def ColsOn (base : Nat) (w : World) (A : Option Addr) (n c : Nat) (ss : List SlV) : Prop :=
  n = ss.length ∧ w.ownsRow base 52 1 (.slice A n c) n (ss.map SlV.v) ∧ (∀ s ∈ ss, s.okX (Value.slice A n c).ownBlock w) ∧ (A = none → c = 0)
theorem ColsOn.later {base : Nat} {w w' : World} {A : Option Addr} {n c : Nat} {ss : List SlV} (h : ColsOn base w A n c ss) (l : Later w w') : ColsOn base w' A n c ss := ⟨h.1, own_later h.2.1 l, fun s hs => (h.2.2.1 s hs).later l, h.2.2.2⟩
theorem ColsOn.at_ {base : Nat} {w : World} {A : Option Addr} {n c : Nat} {ss : List SlV} (h : ColsOn base w A n c ss) : RowsAt w A ss :=
  ⟨Has.own h.2.1, fun s hs => ⟨(h.2.2.1 s hs).1.weak, (h.2.2.1 s hs).2⟩⟩
theorem ColsOn.more {base : Nat} {w w' : World} {A A' : Option Addr} {n c c' : Nat} {ss : List SlV} {s : SlV} (h : ColsOn base w A n c ss)
    (hs : s.okX (Value.slice A n c).ownBlock w) (ho : w'.ownsRow base 52 1 (.slice A' (n + 1) c') (n + 1) (ss.map SlV.v ++ [s.v])) (g : w.grownBy w' (Value.slice A n c).ownBlock) (hat : (Value.slice A' (n + 1) c').ownBlock = (Value.slice A n c).ownBlock ∨ (Value.slice A' (n + 1) c').ownBlock = some w.heap.size) (hn : A' = none → c' = 0) : ColsOn base w' A' (n + 1) c' (ss ++ [s]) := by
  refine ⟨by rw [List.length_append, ← h.1]; rfl, ?_, fun x hx => ?_, hn⟩
  · rw [List.map_append]; exact ho
  · rcases List.mem_append.1 hx with hx | hx
    · exact (h.2.2.1 x hx).grown g hat
    · rw [List.mem_singleton] at hx; subst hx; exact hs.grown g hat
/-- What Columns gives. -/
def ColsOk (L : List (List Val3)) (W : Int) : Prop := (1 ≤ W ∧ W ≤ 6) ∧ ∀ r ∈ L, (r.length : Int) = W
def ColsP (L : List (List Val3)) (W : Int) (w : World) (e : Ending) (w' : World) : Prop :=
  (ColsOk L W ∧ ∃ (g : Nat) (zs : List SlV), e = .returned (.tuple #[.slice (some ⟨g, 0, none⟩) zs.length zs.length, .bool true]) ∧ (zs.length : Int) = W ∧ zs.map (·.l) = colsT L zs.length ∧ RowsAt w' (some ⟨g, 0, none⟩) zs ∧ Later w w' ∧ w.heap.size ≤ g ∧ (∀ s ∈ zs, ∀ b off, s.a = some ⟨b, off, none⟩ → w.heap.size ≤ b) ∧ (∃ B, w.heap.size ≤ B ∧ ColsOn B w' (some ⟨g, 0, none⟩) zs.length zs.length zs)) ∨
  (¬ ColsOk L W ∧ e = .returned (.tuple #[.slice none 0 0, .bool false]) ∧ Later w w')
theorem ColsP.yesX {L : List (List Val3)} {W : Int} {w w' : World} {e : Ending} (h : ColsP L W w e w') (hk : ColsOk L W) :
    ∃ (g : Nat) (zs : List SlV), e = .returned (.tuple #[.slice (some ⟨g, 0, none⟩) zs.length zs.length, .bool true]) ∧ (zs.length : Int) = W ∧ zs.map (·.l) = colsT L zs.length ∧ RowsAt w' (some ⟨g, 0, none⟩) zs ∧ Later w w' ∧ w.heap.size ≤ g ∧ ∀ s ∈ zs, ∀ b off, s.a = some ⟨b, off, none⟩ → w.heap.size ≤ b := by
  rcases h with ⟨_, g, zs, h1, h2, h3, h4, h5, h6, h7, _⟩ | ⟨h, _⟩
  · exact ⟨g, zs, h1, h2, h3, h4, h5, h6, h7⟩
  · exact absurd hk h
theorem ColsP.yesO {L : List (List Val3)} {W : Int} {w w' : World} {e : Ending} (h : ColsP L W w e w') (hk : ColsOk L W) :
    ∃ (g : Nat) (zs : List SlV), e = .returned (.tuple #[.slice (some ⟨g, 0, none⟩) zs.length zs.length, .bool true]) ∧ (zs.length : Int) = W ∧ zs.map (·.l) = colsT L zs.length ∧ RowsAt w' (some ⟨g, 0, none⟩) zs ∧ Later w w' ∧ w.heap.size ≤ g ∧ (∀ s ∈ zs, ∀ b off, s.a = some ⟨b, off, none⟩ → w.heap.size ≤ b) ∧ (∃ B, w.heap.size ≤ B ∧ ColsOn B w' (some ⟨g, 0, none⟩) zs.length zs.length zs) := by
  rcases h with ⟨_, h⟩ | ⟨h, _⟩
  · exact h
  · exact absurd hk h
theorem ColsP.yes {L : List (List Val3)} {W : Int} {w w' : World} {e : Ending} (h : ColsP L W w e w') (hk : ColsOk L W) :
    ∃ (g : Nat) (zs : List SlV), e = .returned (.tuple #[.slice (some ⟨g, 0, none⟩) zs.length zs.length, .bool true]) ∧ (zs.length : Int) = W ∧ zs.map (·.l) = colsT L zs.length ∧ RowsAt w' (some ⟨g, 0, none⟩) zs ∧ Later w w' := by
  obtain ⟨g, zs, h1, h2, h3, h4, h5, _⟩ := h.yesX hk
  exact ⟨g, zs, h1, h2, h3, h4, h5⟩
theorem ColsP.no {L : List (List Val3)} {W : Int} {w w' : World} {e : Ending} (h : ColsP L W w e w') (hk : ¬ ColsOk L W) : e = .returned (.tuple #[.slice none 0 0, .bool false]) ∧ Later w w' := by
  rcases h with ⟨h, _⟩ | ⟨_, h⟩
  · exact absurd h hk
  · exact h
theorem Tab.on {w : World} {g : Nat} {ss : List SlG} {zs : List SlV} (ht : Tab 52 26 3 w g ss) (h3 : RowsAt w (some ⟨g, 0, none⟩) zs) (h4 : ∀ s ∈ zs, ∀ b off, s.a = some ⟨b, off, none⟩ → g < b) (h5 : zs.map SlV.v = ss.map SlG.v) (hm : zs.length ≤ maxLen) : ColsOn g w (some ⟨g, 0, none⟩) zs.length zs.length zs := by
  refine ⟨rfl, Blk.ownG (by rw [h5]; exact ht.blk) (Nat.le_refl _) (by simp) hm, fun s hs => ?_, fun h => by cases h⟩
  obtain ⟨h6, h7⟩ := h3.2 s hs
  refine ⟨?_, h7⟩
  rcases h6 with h | ⟨b, off, hA, hb, _, hc⟩
  · exact .inl h
  · exact .inr ⟨b, off, hA, hb, (fun e => by have h8 := h4 s hs b off hA; have e : some b = some g := e; injection e with e; omega), hc⟩
theorem ColsP.mk {L : List (List Val3)} {W : Nat} {w w' : World} {g : Nat} {ss : List SlG} (hk : ColsOk L W) (h : TabC L W (fun _ => L.length) ss) (ht : Tab 52 26 3 w' g ss) (l : Later w w') (hg : w.heap.size ≤ g) :
    ColsP L W w (.returned (.tuple #[.slice (some ⟨g, 0, none⟩) W W, .bool true])) w' := by
  obtain ⟨zs, h1, h2, h3, h4, h5⟩ := h.rows ht
  exact .inl ⟨hk, g, zs, by rw [h1], by rw [h1], by rw [h1]; exact h2, h3, l, hg, (fun s hs b off hb => Nat.le_of_lt (Nat.lt_of_le_of_lt hg (h4 s hs b off hb))), _, hg, Tab.on ht h3 h4 h5 (by have := hk.1; unfold maxLen; omega)⟩
end Go.Proofs.YtkdpjocglfephaaDoor

/- The walks of batch.check, batch.Columns and of the document's Columns. (tools/gen_batc.py) -/



namespace Go.Proofs.YtkdpjocglfephaaDoor
open Go.RowKit
set_option linter.unusedVariables false

/-- What package batch asks of the world's variables. -/
def S12 (w : World) : Prop := ErrT w ∧ CSent w 5
theorem S12.later {w w' : World} (h : S12 w) (l : Later w w') : S12 w' := ⟨h.1.later l, h.2.later l⟩

theorem colsOk_of {ss : List SlV} {z : Int} : ColsOk (ss.map (·.l)) z ↔ ((1 ≤ z ∧ z ≤ 6) ∧ ∀ s ∈ ss, (s.l.length : Int) = z) := by
  unfold ColsOk
  constructor
  · rintro ⟨h1, h2⟩; exact ⟨h1, fun s hs => h2 _ (List.mem_map.2 ⟨s, hs, rfl⟩)⟩
  · rintro ⟨h1, h2⟩
    refine ⟨h1, fun r hr => ?_⟩
    obtain ⟨s, hs, rfl⟩ := List.mem_map.1 hr
    exact h2 s hs
theorem info_sv : (Tryd.prog.info? 52).map (fun i => (i.zero, i.size, i.bytes)) = some (some (.slice none 0 0), 1, 24) := by kernel_rfl
/-- Where the loops of Columns stand. -/
def CoI (L : List (List Val3)) (W g : Nat) (F : Nat → Nat → Nat) (N : Nat) (w : World) (iv : Value) (wr : World) : Prop :=
  ∃ (k : Nat) (ss : List SlG), iv = .int .i64 k ∧ k ≤ N ∧ TabC L W (F k) ss ∧ Tab 52 26 3 wr g ss ∧ Later w wr
theorem CoI.mk {L : List (List Val3)} {W g : Nat} {F : Nat → Nat → Nat} {N : Nat} {w wr : World} (y : Int) (k : Nat) (ss : List SlG) (hy : y = (k : Int)) (hk : k ≤ N) (h : TabC L W (F k) ss) (ht : Tab 52 26 3 wr g ss) (l : Later w wr) : CoI L W g F N w (.int .i64 y) wr := by
  subst hy; exact ⟨k, ss, rfl, hk, h, ht, l⟩

end Go.Proofs.YtkdpjocglfephaaDoor

/- The walk of the document's Columns. (tools/gen_batc.py) -/

namespace Go.Proofs.YtkdpjocglfephaaDoor
open Go.RowKit
set_option linter.unusedVariables false

set_option maxRecDepth 100000 in
set_option maxHeartbeats 4000000 in
theorem refColumns_any (A : Option Addr) (n c : Nat) (zs : List SlV) (z : Int) (w : World) (hn : n = zs.length) (hl : n ≤ 1000) (hr : RowsAt w A zs) (hb : ∀ s ∈ zs, s.l.length ≤ 1000) :
    Calls Tryd.prog 23 #[.slice A n c, .int .i64 z] w (ColsP (zs.map (·.l)) z w) := by
  by_cases hz : 1 ≤ z ∧ z ≤ 6
  · obtain ⟨W, rfl⟩ : ∃ W : Nat, z = (W : Int) := ⟨z.toNat, by omega⟩
    have hW : 1 ≤ W ∧ W ≤ 6 := by omega
    have HN := Lib.hid hn
    have HBB := Lib.hid hb
    obtain ⟨L, hL⟩ : ∃ x, zs.map (·.l) = x := ⟨_, rfl⟩
    have HLL := Lib.hid hL
    have HOKZ := Lib.hid (show ColsOk (zs.map (·.l)) (W : Int) ↔ ((1 ≤ (W : Int) ∧ (W : Int) ≤ 6) ∧ ∀ s ∈ zs, (s.l.length : Int) = W) from colsOk_of)
    have hLn : L.length = n := by rw [← hL, List.length_map, hn]
    rw [hL] at HOKZ ⊢
    have HLN := Lib.hid hLn
    have hmk := fun Wd => run_make_row' (P := Tryd.prog) 39 52 (.slice none 0 0) 24 Tryd.underlying39 info_sv rfl .i64 .i64 W (by omega) (by omega) Wd
    obtain ⟨g, hg⟩ : ∃ x, w.heap.size = x := ⟨_, rfl⟩
    obtain ⟨w2, hw2⟩ : ∃ x, w.alloc (.cells (madeCells #[.slice none 0 0] W) 52) = x := ⟨_, rfl⟩
    have l2 : Later w w2 := hw2 ▸ Later.new _ _
    have HGW := Lib.hid (show w.heap.size ≤ g by rw [← hg]; exact Nat.le_refl _)
    have HI0 := Lib.hid (CoI.mk (L := L) (W := W) (g := g) (F := fun i _ => i) (N := n) (w := w) (wr := w2) 0 0 _ rfl (Nat.zero_le _) (TabC.new L W) (hw2 ▸ Tab.new w _ _ 3 W g hg.symm) l2)
    have HA0 := Lib.hid (show ∀ i (h : i < zs.length), i < 0 → zs[i].l.length = W from fun i h hi => by omega)
    have HW2 := Lib.hid hw2
    have HG := Lib.hid hg
    have HRW := Lib.hid hr
    have h1 : ¬ (W : Int) < 1 := by omega
    have h2 : ¬ 6 < (W : Int) := by omega
    clear hr hn hL hLn hw2 l2 hg hb hz
    go_enter Tryd.func23, Tryd.ntmps23
    go_wp2_with fail
    clear hmk
    rw [HG.out, HW2.out]
    go_loopw [7] (fun iv wr => CoI L W g (fun i _ => i) n w iv wr ∧ ∀ i (h : i < zs.length), (i : Int) < intOf iv → zs[i].l.length = W) (fun i _ => n - (intOf i).toNat)
    case atStart => exact ⟨HI0.out, fun i h hi => HA0.out i h (by simp [intOf] at hi; omega)⟩
    case round =>
      obtain ⟨⟨i, ss, rfl, hi, htc, htab, lat⟩, hall⟩ := hrel
      have HALL := Lib.hid (fun j (h : j < zs.length) (hj : j < i) => hall j h (by simp only [intOf]; omega))
      clear HI0 HA0 hall
      by_cases hlt : i < n
      · have his : i < zs.length := by have := HN.out; omega
        have hiL : i < L.length := by have := HLN.out; omega
        obtain ⟨rb, ro, hA, cr0, hh0, _⟩ := HRW.out.get i his
        subst hA
        have HHH := Lib.hid hh0
        have HCR := Lib.hid cr0
        have hlb := HBB.out _ (List.getElem_mem his)
        have HLI := Lib.hid (show L[i] = zs[i].l by simp [← HLL.out])
        have hil : (i : Int) < (n : Int) := by omega
        by_cases hlen : zs[i].l.length = W
        · have HJ0 := Lib.hid (CoI.mk (L := L) (W := W) (g := g) (F := fun k j => if j < k then i + 1 else i) (N := W) (w := w) (wr := wr) 0 0 ss rfl (Nat.zero_le _) (htc.ext fun j hj => by (try dsimp only); rw [if_neg (by omega)]) htab lat)
          have HALL2 := Lib.hid (show ∀ j (h : j < zs.length), j < i + 1 → zs[j].l.length = W from fun j h hj => by
            rcases Nat.lt_or_ge j i with h' | h'
            · exact HALL.out j h h'
            · obtain rfl : j = i := by omega
              exact hlen)
          have HLEN := Lib.hid hlen
          have cr := lat.cell cr0
          rw [hlen] at cr
          have hWW : ((W : Int) != (W : Int)) = false := by simp
          clear htc htab lat hh0 cr0 hlen hlb
          go_wp2_with fail
          go_loopw [8] (fun kv wr => CoI L W g (fun k j => if j < k then i + 1 else i) W w kv wr) (fun k _ => W - (intOf k).toNat)
          case atStart => exact HJ0.out
          case round =>
            obtain ⟨k, ts, rfl, hk, htc, htab, lat⟩ := hrel
            clear HJ0 cr
            by_cases hkW : k < W
            · obtain ⟨vb, vo, hV, u0, u1, u2⟩ := HHH.out.val3 k (by have := HLEN.out; omega)
              have hx : L[i].getD k (0, 0, ⟨#[]⟩) = zs[i].l[k]'(by have := HLEN.out; omega) := by
                rw [HLI.out, List.getD_eq_getElem?_getD, List.getElem?_eq_getElem (by have := HLEN.out; omega)]; rfl
              have hvb : vb < g + 1 := by have := block_lt_of_cell u0; have := HGW.out; dsimp only at *; omega
              have hrb : rb < g + 1 := by have := block_lt_of_cell HCR.out; have := HGW.out; dsimp only at *; omega
              have cr := lat.cell HCR.out
              have v0 := lat.cell u0
              have v1 := lat.cell u1
              have v2 := lat.cell u2
              rw [hV] at cr
              rw [HLEN.out] at cr
              obtain ⟨TA, tc, ck, how, hput⟩ := TabC.step htc htab k i hkW (by dsimp only; rw [if_neg (by omega)]) hiL _ hx
              generalize zs[i].l[k]'(by have := HLEN.out; omega) = x at v0 v1 v2 how hput hx u0 u1 u2
              obtain ⟨rc, hrc⟩ : ∃ x, zs[i].c = x := ⟨_, rfl⟩
              rw [hrc] at cr
              obtain ⟨x0, x1, x2⟩ := x
              dsimp only at v0 v1 v2
              have HPUT := Lib.hid hput
              have HOW := Lib.hid how
              have HLAT := Lib.hid lat
              have HVB := Lib.hid hvb
              have HRB := Lib.hid hrb
              have HGL := Lib.hid htab.lt
              have HFZ := Lib.hid (fun (w1 w2 : World) (l : Later wr w1) (hb : Below (g + 1) w1 w2) => Blk.frozen (w := w2) (g := g) (cs := (ts.map SlG.v).toArray) (t := 52) ((hb.block g (Nat.lt_succ_self _)).trans (htab.later l).blk) k)
              have hki : (k : Int) < (W : Int) := by omega
              clear hx htc htab lat hput how hV hvb hrb u0 u1 u2 hrc
              go_wp2_with fail
              refine wp_region_Z (S := fun Y : World => Y.cell? ⟨g, k, none⟩ = some (.slice TA i tc) ∧ Y.cell? ⟨vb, vo + k * 3, none⟩ = some (.int .i64 x0) ∧ Y.cell? ⟨vb, vo + k * 3 + 1, none⟩ = some (.int .i64 x1) ∧ Y.cell? ⟨vb, vo + k * 3 + 2, none⟩ = some (.string x2) ∧ Y.cell? ⟨rb, ro + i, none⟩ = some (.slice (some ⟨vb, vo, none⟩) W rc)) 16 (by kernel_rfl) ?_
              have hS : (fun Y : World => Y.cell? ⟨g, k, none⟩ = some (.slice TA i tc) ∧ Y.cell? ⟨vb, vo + k * 3, none⟩ = some (.int .i64 x0) ∧ Y.cell? ⟨vb, vo + k * 3 + 1, none⟩ = some (.int .i64 x1) ∧ Y.cell? ⟨vb, vo + k * 3 + 2, none⟩ = some (.string x2) ∧ Y.cell? ⟨rb, ro + i, none⟩ = some (.slice (some ⟨vb, vo, none⟩) W rc)) wr.drew := ⟨ck, v0, v1, v2, cr⟩
              obtain ⟨w8, hw8⟩ : ∃ x, wr.drew = x := ⟨_, rfl⟩
              have l8 : Later wr w8 := hw8 ▸ (Later.refl wr).drew
              rw [hw8] at hS ⊢
              clear hw8
              refine wpAnyZ_take (i := 0) (oi := { dst := some 35, op := _, type := _, pos := _, after := _, guard := _ }) (v := ?_) rfl (by kernel_rfl) (by kernel_rfl) (by kernel_rfl) (by kernel_rfl) (fun _ _ _ h => h) (Or.inl ⟨by rfl, ?_⟩) hS ?_
              rotate_left
              focus ((intro w hSw; (try dsimp only at hSw); obtain ⟨d0, d1, d2, d3, d4⟩ := hSw; go_simp); (try with_reducible rfl))
              (try simp only [Act.put, List.setIfInBounds_toArray, List.set_cons_zero, List.set_cons_succ])
              refine wpAnyZ_take (i := 1) (oi := { dst := some 36, op := _, type := _, pos := _, after := _, guard := _ }) (v := ?_) rfl (by kernel_rfl) (by kernel_rfl) (by kernel_rfl) (by kernel_rfl) (fun _ _ _ h => h) (Or.inl ⟨by rfl, ?_⟩) hS ?_
              rotate_left
              focus ((intro w hSw; (try dsimp only at hSw); obtain ⟨d0, d1, d2, d3, d4⟩ := hSw; go_simp); (try with_reducible rfl))
              (try simp only [Act.put, List.setIfInBounds_toArray, List.set_cons_zero, List.set_cons_succ])
              refine wpAnyZ_take (i := 2) (oi := { dst := some 37, op := _, type := _, pos := _, after := _, guard := _ }) (v := ?_) rfl (by kernel_rfl) (by kernel_rfl) (by kernel_rfl) (by kernel_rfl) (fun _ _ _ h => h) (Or.inl ⟨by rfl, ?_⟩) hS ?_
              rotate_left
              focus ((intro w hSw; (try dsimp only at hSw); obtain ⟨d0, d1, d2, d3, d4⟩ := hSw; go_simp); (try with_reducible rfl))
              (try simp only [Act.put, List.setIfInBounds_toArray, List.set_cons_zero, List.set_cons_succ])
              refine wpAnyZ_take (i := 3) (oi := { dst := some 38, op := _, type := _, pos := _, after := _, guard := _ }) (v := ?_) rfl (by kernel_rfl) (by kernel_rfl) (by kernel_rfl) (by kernel_rfl) (fun _ _ _ h => h) (Or.inl ⟨by rfl, ?_⟩) hS ?_
              rotate_left
              focus ((intro w hSw; (try dsimp only at hSw); obtain ⟨d0, d1, d2, d3, d4⟩ := hSw; go_simp); (try with_reducible rfl))
              (try simp only [Act.put, List.setIfInBounds_toArray, List.set_cons_zero, List.set_cons_succ])
              refine wpAnyZ_take (i := 4) (oi := { dst := some 39, op := _, type := _, pos := _, after := _, guard := _ }) (v := ?_) rfl (by kernel_rfl) (by kernel_rfl) (by kernel_rfl) (by kernel_rfl) (fun _ _ _ h => h) (Or.inl ⟨by rfl, ?_⟩) hS ?_
              rotate_left
              focus ((intro w hSw; (try dsimp only at hSw); obtain ⟨d0, d1, d2, d3, d4⟩ := hSw; go_simp); (try with_reducible rfl))
              (try simp only [Act.put, List.setIfInBounds_toArray, List.set_cons_zero, List.set_cons_succ])
              refine wpAnyZ_take (i := 5) (oi := { dst := some 40, op := _, type := _, pos := _, after := _, guard := _ }) (v := ?_) rfl (by kernel_rfl) (by kernel_rfl) (by kernel_rfl) (by kernel_rfl) (fun _ _ _ h => h) (Or.inl ⟨by rfl, ?_⟩) hS ?_
              rotate_left
              focus ((intro w hSw; (try dsimp only at hSw); obtain ⟨d0, d1, d2, d3, d4⟩ := hSw; go_simp); (try with_reducible rfl))
              (try simp only [Act.put, List.setIfInBounds_toArray, List.set_cons_zero, List.set_cons_succ])
              refine wpAnyZ_take (i := 6) (oi := { dst := some 41, op := _, type := _, pos := _, after := _, guard := _ }) (v := ?_) rfl (by kernel_rfl) (by kernel_rfl) (by kernel_rfl) (by kernel_rfl) (fun _ _ _ h => h) (Or.inl ⟨by rfl, ?_⟩) hS ?_
              rotate_left
              focus ((intro w hSw; (try dsimp only at hSw); obtain ⟨d0, d1, d2, d3, d4⟩ := hSw; go_simp); (try with_reducible rfl))
              (try simp only [Act.put, List.setIfInBounds_toArray, List.set_cons_zero, List.set_cons_succ])
              refine wpAnyZ_take (i := 7) (oi := { dst := some 42, op := _, type := _, pos := _, after := _, guard := _ }) (v := ?_) rfl (by kernel_rfl) (by kernel_rfl) (by kernel_rfl) (by kernel_rfl) (fun _ _ _ h => h) (Or.inl ⟨by rfl, ?_⟩) hS ?_
              rotate_left
              focus ((intro w hSw; (try dsimp only at hSw); obtain ⟨d0, d1, d2, d3, d4⟩ := hSw; go_simp); (try with_reducible rfl))
              (try simp only [Act.put, List.setIfInBounds_toArray, List.set_cons_zero, List.set_cons_succ])
              refine wpAnyZ_take (i := 8) (oi := { dst := some 43, op := _, type := _, pos := _, after := _, guard := _ }) (v := ?_) rfl (by kernel_rfl) (by kernel_rfl) (by kernel_rfl) (by kernel_rfl) (fun _ _ _ h => h) (Or.inl ⟨by rfl, ?_⟩) hS ?_
              rotate_left
              focus ((intro w hSw; (try dsimp only at hSw); obtain ⟨d0, d1, d2, d3, d4⟩ := hSw; go_simp); (try with_reducible rfl))
              (try simp only [Act.put, List.setIfInBounds_toArray, List.set_cons_zero, List.set_cons_succ])
              refine wpAnyZ_take (i := 9) (oi := { dst := some 44, op := _, type := _, pos := _, after := _, guard := _ }) (v := ?_) rfl (by kernel_rfl) (by kernel_rfl) (by kernel_rfl) (by kernel_rfl) (fun _ _ _ h => h) (Or.inl ⟨by rfl, ?_⟩) hS ?_
              rotate_left
              focus ((intro w hSw; (try dsimp only at hSw); obtain ⟨d0, d1, d2, d3, d4⟩ := hSw; go_simp); (try with_reducible rfl))
              (try simp only [Act.put, List.setIfInBounds_toArray, List.set_cons_zero, List.set_cons_succ])
              refine wpAnyZ_take (i := 10) (oi := { dst := some 45, op := _, type := _, pos := _, after := _, guard := _ }) (v := ?_) rfl (by kernel_rfl) (by kernel_rfl) (by kernel_rfl) (by kernel_rfl) (fun _ _ _ h => h) (Or.inl ⟨by rfl, ?_⟩) hS ?_
              rotate_left
              focus ((intro w hSw; (try dsimp only at hSw); obtain ⟨d0, d1, d2, d3, d4⟩ := hSw; go_simp); (try with_reducible rfl))
              (try simp only [Act.put, List.setIfInBounds_toArray, List.set_cons_zero, List.set_cons_succ])
              refine wpAnyZ_take (i := 11) (oi := { dst := some 46, op := _, type := _, pos := _, after := _, guard := _ }) (v := ?_) rfl (by kernel_rfl) (by kernel_rfl) (by kernel_rfl) (by kernel_rfl) (fun _ _ _ h => h) (Or.inl ⟨by rfl, ?_⟩) hS ?_
              rotate_left
              focus ((intro w hSw; (try dsimp only at hSw); obtain ⟨d0, d1, d2, d3, d4⟩ := hSw; go_simp); (try with_reducible rfl))
              (try simp only [Act.put, List.setIfInBounds_toArray, List.set_cons_zero, List.set_cons_succ])
              refine wpAnyZ_take (i := 12) (oi := { dst := some 47, op := _, type := _, pos := _, after := _, guard := _ }) (v := ?_) rfl (by kernel_rfl) (by kernel_rfl) (by kernel_rfl) (by kernel_rfl) (fun _ _ _ h => h) (Or.inl ⟨by rfl, ?_⟩) hS ?_
              rotate_left
              focus ((intro w hSw; (try dsimp only at hSw); obtain ⟨d0, d1, d2, d3, d4⟩ := hSw; go_simp); (try with_reducible rfl))
              (try simp only [Act.put, List.setIfInBounds_toArray, List.set_cons_zero, List.set_cons_succ])
              refine wpAnyZ_all (rs := [13]) (by kernel_rfl) (by simp) (fun i hi => ?_)
              simp only [List.mem_cons, List.not_mem_nil, or_false] at hi
              subst hi
              refine stepZ (o := { dst := some 48, op := _, type := _, pos := _, after := _, guard := _ }) rfl (fun K hK => ?_)
              go_simp
              obtain ⟨gl, hgl⟩ : ∃ x, w8.heap.size = x := ⟨_, rfl⟩
              obtain ⟨wl, hwl⟩ : ∃ x, w8.alloc (.cells #[.int .i64 x0, .int .i64 x1, .string x2] 26) = x := ⟨_, rfl⟩
              have ll : Later w8 wl := hwl ▸ Later.new _ _
              have hlit : Has wl (some ⟨gl, 0, none⟩) [.int .i64 x0, .int .i64 x1, .string x2] := hwl ▸ (Blk.new w8 [.int .i64 x0, .int .i64 x1, .string x2].toArray 26 gl hgl.symm).has
              try rw [hgl]
              rw [hwl]
              have hS : (fun Y : World => Y.cell? ⟨g, k, none⟩ = some (.slice TA i tc) ∧ Y.cell? ⟨vb, vo + k * 3, none⟩ = some (.int .i64 x0) ∧ Y.cell? ⟨vb, vo + k * 3 + 1, none⟩ = some (.int .i64 x1) ∧ Y.cell? ⟨vb, vo + k * 3 + 2, none⟩ = some (.string x2) ∧ Y.cell? ⟨rb, ro + i, none⟩ = some (.slice (some ⟨vb, vo, none⟩) W rc)) wl := ⟨ll.cell hS.1, ll.cell hS.2.1, ll.cell hS.2.2.1, ll.cell hS.2.2.2.1, ll.cell hS.2.2.2.2⟩
              refine hK _ _ hS ?_
              clear hK hwl hgl
              (try simp only [Act.put, List.setIfInBounds_toArray, List.set_cons_zero, List.set_cons_succ])
              refine wpAnyZ_all (rs := [14]) (by kernel_rfl) (by simp) (fun i hi => ?_)
              simp only [List.mem_cons, List.not_mem_nil, or_false] at hi
              subst hi
              refine stepZ (o := { dst := some 49, op := _, type := _, pos := _, after := _, guard := _ }) rfl (fun K hK => ?_)
              refine step_append_x rfl (.tmp 40) (.tmp 48) 52 rfl (g + 1) 26 _ 3 32 Tryd.underlying52 info_v rfl (by decide) _ i (fl (colK (L.take i) k)) rfl (own_later HOW.out (l8.trans ll)) gl 0 1 1 [.int .i64 x0, .int .i64 x1, .string x2] rfl hlit rfl (by simp [Value.oneCell']) (by unfold maxLen; omega) (by omega) (by have := ll.size; have := l8.size; have := HGL.out; omega) ?_
              rintro A' c' wq ho hgr hbl hat hnl
              have hSq : (fun Y : World => Y.cell? ⟨g, k, none⟩ = some (.slice TA i tc) ∧ Y.cell? ⟨vb, vo + k * 3, none⟩ = some (.int .i64 x0) ∧ Y.cell? ⟨vb, vo + k * 3 + 1, none⟩ = some (.int .i64 x1) ∧ Y.cell? ⟨vb, vo + k * 3 + 2, none⟩ = some (.string x2) ∧ Y.cell? ⟨rb, ro + i, none⟩ = some (.slice (some ⟨vb, vo, none⟩) W rc)) wq := by
                have hg : g < wl.heap.size := by have := ll.size; have := l8.size; have := HGL.out; omega
                have hb : ∀ p : Addr, p.block < g + 1 → ∀ v, wl.cell? p = some v → wq.cell? p = some v := fun p hp v hv => (hbl.cell hp).trans hv
                exact ⟨hb _ (Nat.lt_succ_self _) _ hS.1, hb _ HVB.out _ hS.2.1, hb _ HVB.out _ hS.2.2.1, hb _ HVB.out _ hS.2.2.2.1, hb _ HRB.out _ hS.2.2.2.2⟩
              have HP := Lib.hid (HPUT.out wl wq A' c' (l8.trans ll) ho hgr hat hnl)
              have HLq := Lib.hid (show Later w (wq.setCell ⟨g, k, none⟩ (.slice A' (i + 1) c')) from Later.of ((((HLAT.out.trans l8).trans ll).below.trans (hbl.mono (by have := HGW.out; omega))).setCell (show w.heap.size ≤ g from HGW.out) _))
              have e0 := hSq.1
              have y0 : wq.frozen? ⟨g, k, none⟩ = false := HFZ.out wl wq (l8.trans ll) hbl
              clear ho hgr hbl hat hnl hS hlit ll
              refine hK _ _ hSq ?_
              clear hK
              (try simp only [Act.put, List.setIfInBounds_toArray, List.set_cons_zero, List.set_cons_succ])
              refine wpAnyZ_take (i := 15) (oi := { dst := some 50, op := _, type := _, pos := _, after := _, guard := _ }) (v := ?_) rfl (by kernel_rfl) (by kernel_rfl) (by kernel_rfl) (by kernel_rfl) (fun _ _ _ h => h) (Or.inl ⟨by rfl, ?_⟩) hSq ?_
              rotate_left
              focus ((intro w hSw; (try dsimp only at hSw); obtain ⟨d0, d1, d2, d3, d4⟩ := hSw; go_simp); (try with_reducible rfl))
              (try simp only [Act.put, List.setIfInBounds_toArray, List.set_cons_zero, List.set_cons_succ])
              refine wpAnyZ_all (rs := [16]) (by kernel_rfl) (by simp) (fun i hi => ?_)
              simp only [List.mem_cons, List.not_mem_nil, or_false] at hi
              subst hi
              refine stepZl (o := { dst := none, op := _, type := _, pos := _, after := _, guard := _ }) rfl (fun K hK => ?_)
              go_simp
              refine hK _ _ ?_
              clear hK
              (try simp only [Act.put, List.setIfInBounds_toArray, List.set_cons_zero, List.set_cons_succ])
              refine wpAnyZ_done (by kernel_rfl) ?_ _
              clear e0 y0 hSq
              obtain ⟨wz, hwz⟩ : ∃ x, wq.setCell ⟨g, k, none⟩ (.slice A' (i + 1) c') = x := ⟨_, rfl⟩
              rw [hwz] at HP HLq ⊢
              obtain ⟨ss', h1, h2⟩ := HP.out
              have HI := Lib.hid (CoI.mk (L := L) (W := W) (g := g) (F := fun k j => if j < k then i + 1 else i) (N := W) (w := w) (wr := wz) ((k : Int) + 1) (k + 1) ss' (by omega) (by omega) (h1.ext fun j hj => by
                (try dsimp only)
                by_cases e : j = k
                · subst e; rw [if_pos rfl, if_pos (by omega)]
                · rw [if_neg e]
                  by_cases e2 : j < k
                  · rw [if_pos e2, if_pos (by omega)]
                  · rw [if_neg e2, if_neg (by omega)]) h2 HLq.out)
              clear h1 h2 hwz HP HLq HPUT HOW HLAT
              have hwj : IntKind.i64.wrap ((k : Int) + 1) = (k : Int) + 1 := IntWalk.i64_in _ ⟨by omega, by omega⟩
              go_wp2_with fail
              go_roundw
              all_goals first
                | exact HI.out
                | (simp [intOf]; done)
                | (simp [intOf]; omega)
            · have hin : k = W := by omega
              subst hin
              have HI := Lib.hid (CoI.mk (L := L) (W := k) (g := g) (F := fun i _ => i) (N := n) (w := w) (wr := wr) ((i : Int) + 1) (i + 1) ts (by omega) (by omega) (htc.ext fun j hj => by
                (try dsimp only); rw [if_pos hj]) htab lat)
              clear htc htab lat
              have hwj : IntKind.i64.wrap ((i : Int) + 1) = (i : Int) + 1 := IntWalk.i64_in _ ⟨by omega, by omega⟩
              go_wp2_with fail
              go_roundw
              all_goals first
                | exact ⟨HI.out, fun j h hj => HALL2.out j h (by simp only [intOf] at hj; omega)⟩
                | (simp [intOf]; done)
                | (simp [intOf]; omega)
        · have cr := lat.cell cr0
          have HNO := Lib.hid (show ¬ ColsOk L (W : Int) from fun h => hlen (by have := (HOKZ.out.1 h).2 _ (List.getElem_mem his); omega))
          have hne : (((zs[i].l.length : Nat) : Int) != (W : Int)) = true := by simp; omega
          have HLAT := Lib.hid lat
          generalize zs[i].a = ra at cr
          generalize zs[i].c = rc at cr
          generalize zs[i].l.length = rl at cr hne
          clear htc htab lat hh0 cr0 hlen hlb
          go_wp2_with fail
          go_ret2
          exact .inr ⟨HNO.out, rfl, HLAT.out⟩
      · have hin : i = n := by omega
        subst hin
        have HOK := Lib.hid (show ColsOk L (W : Int) from HOKZ.out.2 ⟨by omega, fun s hs => by
          obtain ⟨j, hj, rfl⟩ := List.mem_iff_getElem.1 hs
          have := HALL.out j hj (by have := HN.out; omega)
          omega⟩)
        have HP := Lib.hid (show ColsP L W w (.returned (.tuple #[.slice (some ⟨g, 0, none⟩) W W, .bool true])) wr from ColsP.mk HOK.out (htc.ext fun j hj => by (try dsimp only); rw [HLN.out]) htab lat HGW.out)
        clear htc htab lat
        go_wp2_with fail
        go_ret2
        exact HP.out
  · have HNO := Lib.hid (show ¬ ColsOk (zs.map (·.l)) z from fun h => hz h.1)
    by_cases h1 : z < 1
    · clear hn hr hb
      go_enter Tryd.func23, Tryd.ntmps23
      go_wp2_with fail
      go_ret2
      exact .inr ⟨HNO.out, rfl, Later.refl _⟩
    · have h2 : 6 < z := by omega
      clear hn hr hb hz
      go_enter Tryd.func23, Tryd.ntmps23
      go_wp2_with fail
      go_ret2
      exact .inr ⟨HNO.out, rfl, Later.refl _⟩
end Go.Proofs.YtkdpjocglfephaaDoor
