/- Package dev: how a device stands in memory; what is read of it. -/
import Derived.Test.YtfplppldojlanaaDoorBase
import Derived.Test.YtfplppldojlanaaDoorOwn
import Derived.BigQuiet
import Derived.Deep.RegionHeld3
namespace Go.Proofs.YtfplppldojlanaaDoor
open Go.RowKit
set_option linter.unusedVariables false

theorem typed_ne {w : World} {g x : Nat} {cs cs' : Array Value} {t e : TypeId} {z z2 : Nat × Nat} (hb : w.heap[g]? = some (Obj.cells cs t z)) (hr : w.heap[x]? = some (Obj.cells cs' e z2)) (hne : t ≠ e) : g ≠ x := by
  intro h
  subst h
  rw [hb] at hr
  injection hr with hr
  injection hr with _ hr _
  exact hne hr
/-- The bytes of a block, as a value. -/
def BV (w : World) (v : Value) (l : List Nat) : Prop :=
  l.length = 128 ∧ (∀ x ∈ l, x < 256) ∧ ∃ b o c cs, v = .slice (some ⟨b, o, none⟩) 128 c ∧ 128 ≤ c ∧ c ≤ 9223372036854775807 ∧ w.heap[b]? = some (Obj.cells cs 5 (0, 0)) ∧ ∀ j u, (ints .u8 l)[j]? = some u → cs[o + j]? = some u
theorem BV.keep {w w' : World} {v : Value} {l : List Nat} (h : BV w v l) (hk : ∀ (b : Nat) (cs : Array Value), w.heap[b]? = some (Obj.cells cs 5 (0, 0)) → w'.heap[b]? = w.heap[b]?) : BV w' v l := by
  obtain ⟨h1, h2, b, o, c, cs, h3, h4, h5, h6, h7⟩ := h
  exact ⟨h1, h2, b, o, c, cs, h3, h4, h5, (hk b cs h6).trans h6, h7⟩
theorem BV.later {w w' : World} {v : Value} {l : List Nat} (h : BV w v l) (k : Later w w') : BV w' v l := h.keep fun b cs hb => Below.block k b (Array.getElem?_eq_some_iff.1 hb).1
theorem BV.has {w : World} {v : Value} {l : List Nat} (h : BV w v l) : ∃ b o c, v = .slice (some ⟨b, o, none⟩) 128 c ∧ 128 ≤ c ∧ c ≤ 9223372036854775807 ∧ Has w (some ⟨b, o, none⟩) (ints .u8 l) := by
  obtain ⟨h1, h2, b, o, c, cs, h3, h4, h5, h6, h7⟩ := h
  refine ⟨b, o, c, h3, h4, h5, .inr ⟨b, o, rfl, (Array.getElem?_eq_some_iff.1 h6).1, fun j u hj => ?_⟩⟩
  rw [cell_of_row w b (o + j) cs _ (0, 0) h6]
  exact h7 j u hj
theorem BV.own {w : World} {base : Nat} {A : Option Addr} {c : Nat} {l : List Nat} (h : w.ownsRow base 5 1 (.slice A 128 c) 128 (ints .u8 l)) (h256 : ∀ x ∈ l, x < 256) (hc : c ≤ 9223372036854775807) : BV w (.slice A 128 c) l := by
  have hl : l.length = 128 := by have := h.1; rw [ints_length] at this; omega
  rcases h.2 with ⟨h1, _⟩ | ⟨g, cap, cur, h1, h2, h3, h4, h5, h6, h7⟩
  · injection h1 with _ h1; omega
  · injection h1 with h1 _ h8
    subst h1 h8
    refine ⟨hl, h256, g, 0, _, cur, rfl, h4, hc, h3, fun j u hj => ?_⟩
    rw [Nat.zero_add, ← hj, ← h7, List.getElem?_take, if_pos (by have := (List.getElem?_eq_some_iff.1 hj).1; rw [ints_length, hl] at this; omega), Array.getElem?_toList]
/-- A row of blocks. -/
def SR (w : World) (base g n c : Nat) (L : List (List Nat)) : Prop :=
  L.length = n ∧ ∃ vs, w.ownsRow base 24 1 (.slice (some ⟨g, 0, none⟩) n c) n vs ∧ ∀ i, (hi : i < L.length) → ∃ v, vs[i]? = some v ∧ BV w v L[i]
/-- The writes between. -/
def FL (w : World) (base : Nat) (A : Option Addr) (n c : Nat) (F : List (Nat × List Nat)) : Prop :=
  F.length = n ∧ (A = none → c = 0) ∧ ∃ vs, w.ownsRow base 68 2 (.slice A n c) n vs ∧ ∀ i, (hi : i < F.length) → vs[i * 2]? = some (.int .i64 (F[i].1 : Int)) ∧ ∃ v, vs[i * 2 + 1]? = some v ∧ BV w v F[i].2
/-- What a device is. -/
structure D where
  sure : List (List Nat)
  now : List (List Nat)
  fly : List (Nat × List Nat)
  writes : Int
  stops : Bool
  left : Int
def D.stopped (d : D) : Bool := d.stops && decide (d.left ≤ 0)
/-- A device in memory. -/
def DA (w : World) (base p gs gn B cs cn : Nat) (A : Option Addr) (cf : Nat) (d : D) : Prop :=
  Blk w p #[.slice (some ⟨gs, 0, none⟩) B cs, .slice (some ⟨gn, 0, none⟩) B cn, .slice A d.fly.length cf, .int .i64 d.writes, .bool d.stops, .int .i64 d.left] 54 ∧
  SR w base gs B cs d.sure ∧ SR w base gn B cn d.now ∧ FL w base A d.fly.length cf d.fly ∧ gs ≠ gn ∧ base ≤ p
/-- What a device's deeds leave of all else. -/
def KD (w w' : World) : Prop := w'.os = w.os ∧ w'.tape = w.tape ∧ w'.output = w.output ∧ w.heap.size ≤ w'.heap.size ∧ ∀ {z : Nat × Nat} (b : Nat) (cs : Array Value) (t : TypeId), t ≠ 24 → t ≠ 68 → t ≠ 54 → w.heap[b]? = some (Obj.cells cs t z) → w'.heap[b]? = w.heap[b]?
theorem KD.refl (w : World) : KD w w := ⟨rfl, rfl, rfl, Nat.le_refl _, fun _ _ _ _ _ _ _ => rfl⟩
theorem KD.trans {a b c : World} (h : KD a b) (k : KD b c) : KD a c :=
  ⟨k.1.trans h.1, k.2.1.trans h.2.1, k.2.2.1.trans h.2.2.1, Nat.le_trans h.2.2.2.1 k.2.2.2.1, fun x cs t h1 h2 h3 hx => (k.2.2.2.2 x cs t h1 h2 h3 ((h.2.2.2.2 x cs t h1 h2 h3 hx).trans hx)).trans (h.2.2.2.2 x cs t h1 h2 h3 hx)⟩
theorem KD.later {w w' : World} (h : Later w w') : KD w w' := ⟨h.os, h.tape, h.output, h.size, fun b cs t _ _ _ hb => Below.block h b (Array.getElem?_eq_some_iff.1 hb).1⟩
theorem KD.bv {w w' : World} {v : Value} {l : List Nat} (k : KD w w') (h : BV w v l) : BV w' v l := h.keep fun b cs hb => k.2.2.2.2 b cs _ (by decide) (by decide) (by decide) hb
section
variable {w w' : World} {base p gs gn B cs cn cf : Nat} {A : Option Addr} {d : D}
theorem SR.later {g n c : Nat} {L : List (List Nat)} (h : SR w base g n c L) (k : Later w w') : SR w' base g n c L := by
  obtain ⟨h1, vs, h2, h3⟩ := h
  exact ⟨h1, vs, own_later h2 k, fun i hi => by obtain ⟨v, h4, h5⟩ := h3 i hi; exact ⟨v, h4, h5.later k⟩⟩
theorem FL.later {n c : Nat} {F : List (Nat × List Nat)} (h : FL w base A n c F) (k : Later w w') : FL w' base A n c F := by
  obtain ⟨h1, h0, vs, h2, h3⟩ := h
  exact ⟨h1, h0, vs, own_later h2 k, fun i hi => by obtain ⟨h6, v, h4, h5⟩ := h3 i hi; exact ⟨h6, v, h4, h5.later k⟩⟩
theorem DA.later (h : DA w base p gs gn B cs cn A cf d) (k : Later w w') : DA w' base p gs gn B cs cn A cf d :=
  ⟨h.1.later k, h.2.1.later k, h.2.2.1.later k, h.2.2.2.1.later k, h.2.2.2.2.1, h.2.2.2.2.2⟩
theorem DA.c0 (h : DA w base p gs gn B cs cn A cf d) : w.cell? ⟨p, 0, none⟩ = some (.slice (some ⟨gs, 0, none⟩) B cs) := h.1.cell 0 _ rfl
theorem DA.c1 (h : DA w base p gs gn B cs cn A cf d) : w.cell? ⟨p, 1, none⟩ = some (.slice (some ⟨gn, 0, none⟩) B cn) := h.1.cell 1 _ rfl
theorem DA.c2 (h : DA w base p gs gn B cs cn A cf d) : w.cell? ⟨p, 2, none⟩ = some (.slice A d.fly.length cf) := h.1.cell 2 _ rfl
theorem DA.c3 (h : DA w base p gs gn B cs cn A cf d) : w.cell? ⟨p, 3, none⟩ = some (.int .i64 d.writes) := h.1.cell 3 _ rfl
theorem DA.c4 (h : DA w base p gs gn B cs cn A cf d) : w.cell? ⟨p, 4, none⟩ = some (.bool d.stops) := h.1.cell 4 _ rfl
theorem DA.c5 (h : DA w base p gs gn B cs cn A cf d) : w.cell? ⟨p, 5, none⟩ = some (.int .i64 d.left) := h.1.cell 5 _ rfl
theorem SR.cell {g n c : Nat} {L : List (List Nat)} (h : SR w base g n c L) (i : Nat) (hi : i < n) : ∃ v, w.cell? ⟨g, i, none⟩ = some v ∧ BV w v (L[i]'(by rw [h.1]; exact hi)) := by
  obtain ⟨h1, vs, h2, h3⟩ := h
  obtain ⟨v, h4, h5⟩ := h3 i (by omega)
  exact ⟨v, by rw [h2.cellAt i (by omega), h4], h5⟩
theorem SR.cap {g n c : Nat} {L : List (List Nat)} (h : SR w base g n c L) : n ≤ c := by obtain ⟨_, vs, h2, _⟩ := h; exact own_cap h2
end
abbrev dptr (p : Nat) : Value := .pointer (some ⟨p, 0, none⟩)

set_option maxRecDepth 100000 in
theorem devBlocks_any (p gn B cn : Nat) (w : World) (h : w.cell? ⟨p, 1, none⟩ = some (.slice (some ⟨gn, 0, none⟩) B cn)) :
    Calls Tryd.prog 30 #[dptr p] w fun e w' => e = .returned (.int .i64 B) ∧ w' = w := by
  go_enter Tryd.func30, Tryd.ntmps30
  go_wp2_with fail
  go_ret
  exact ⟨rfl, rfl⟩
set_option maxRecDepth 100000 in
theorem devStopped_any (p : Nat) (s : Bool) (n : Int) (w : World) (h4 : w.cell? ⟨p, 4, none⟩ = some (.bool s)) (h5 : w.cell? ⟨p, 5, none⟩ = some (.int .i64 n)) :
    Calls Tryd.prog 14 #[dptr p] w fun e w' => e = .returned (.bool (s && decide (n ≤ 0))) ∧ w' = w := by
  cases s
  · go_enter Tryd.func14, Tryd.ntmps14
    go_wp2_with fail
    go_ret
    exact ⟨rfl, rfl⟩
  · go_enter Tryd.func14, Tryd.ntmps14
    go_wp2_with fail
    go_ret
    exact ⟨by simp, rfl⟩

set_option maxRecDepth 100000 in
set_option maxHeartbeats 1000000 in
theorem byteClone_any (A : Option Addr) (n c : Nat) (l : List Nat) (w : World) (hn : n = l.length) (hl : l.length ≤ 100000) (hr : Has w A (ints .u8 l)) (hnil : A = none → c = 0) :
    Calls Tryd.prog 55 #[.slice A n c] w fun e w' => ∃ B cap, e = .returned (.slice B n cap) ∧ w'.ownsRow w.heap.size 5 1 (.slice B n cap) n (ints .u8 l) ∧ Later w w' := by
  have q22 : ∀ (w : World) (a : Option Addr) (n c n' c' : Nat), (binOp .eql 24 (.slice a n c) (.slice none n' c')).run Tryd.prog w = .ok (.bool a.isNone) w := fun w a n c n' c' => Lib.run_eql_slice_nil w _ _ a n c n' c' Tryd.underlying24
  rcases A with _ | a
  · have h0 : l = [] := by
      rcases hr with h | ⟨_, _, h, _⟩
      · have h := congrArg List.length h
        rw [ints_length] at h
        exact List.eq_nil_of_length_eq_zero h
      · cases h
    subst h0
    have hn0 : n = 0 := hn
    clear hn hl
    subst hn0
    clear hr
    go_enter Tryd.func55, Tryd.ntmps55
    go_wp2_with fail
    go_ret
    exact ⟨none, 0, rfl, ownG_nil _ _ _ _, Later.refl _⟩
  · have l1 := Later.new w (.cells ([] : List Value).toArray 5)
    have OW := Lib.hid ((Blk.new w ([] : List Value).toArray 5 _ rfl).ownG (base := w.heap.size) (size := 1) (n := 0) (Nat.le_refl _) rfl (by decide))
    have HR := Lib.hid (hr.later l1)
    have HL1 := Lib.hid l1
    have HNN := Lib.hid (show n = (ints .u8 l).length by rw [ints_length, hn])
    have hn9 : n ≤ 100000 := by omega
    clear hr l1 hn hl hnil
    go_enter Tryd.func55, Tryd.ntmps55
    go_wp2_with (at_builtin; refine wpList_append_rd _ rfl (.tmp 5) (.tmp 6) 24 rfl w.heap.size 5 (.int .u8 0) 1 Tryd.underlying24 info_u8 rfl _ 0 [] rfl OW.out _ (some a) n c (ints .u8 l) rfl HR.out.rd HNN.out (by intro h; cases h) (ints_one _ _) (by unfold maxLen; omega) (by omega) ?_ ?_; (exact HL1.out.size); intro A2 c2 w6 o2 g2 b2 n2; simp only [Nat.zero_add, List.nil_append] at o2; have HO2 := Lib.hid o2; have HB6 := Lib.hid (Later.of (HL1.out.below.trans b2)); clear o2 g2 b2 n2)
    go_ret
    exact ⟨A2, c2, by simp, HO2.out, HB6.out⟩

/-- What Read tells. -/
def ReadP (l : List Nat) (w : World) (e : Ending) (w' : World) : Prop := ∃ v, e = .returned (.tuple #[v, .bool true]) ∧ BV w' v l ∧ Later w w' ∧ ∃ A c, v = .slice A 128 c
set_option maxRecDepth 100000 in
set_option maxHeartbeats 1000000 in
theorem devRead_any (base p gs gn B cs cn : Nat) (A : Option Addr) (cf : Nat) (d : D) (i : Nat) (w : World) (h : DA w base p gs gn B cs cn A cf d) (hi : i < B) (hB : B ≤ 4000) :
    Calls Tryd.prog 49 #[dptr p, .int .i64 i] w (ReadP (d.now[i]'(by rw [h.2.2.1.1]; exact hi)) w) := by
  obtain ⟨v, hc, hbv⟩ := h.2.2.1.cell i hi
  obtain ⟨l, hl⟩ : ∃ l, l = d.now[i]'(by rw [h.2.2.1.1]; exact hi) := ⟨_, rfl⟩
  rw [← hl] at hbv ⊢
  have HBV := Lib.hid hbv
  obtain ⟨b, o, c, rfl, h1, h2, hhas⟩ := hbv.has
  have HBL := Lib.hid (devBlocks_any p gn B cn w h.c1)
  have HCL := Lib.hid (byteClone_any (some ⟨b, o, none⟩) 128 c l w hbv.1.symm (by rw [hbv.1]; decide) hhas (by intro e; cases e))
  have k1 := h.c1
  have hcn := h.2.2.1.cap
  clear h hl hbv hhas
  go_enter Tryd.func49, Tryd.ntmps49
  go_wp2_with fail
  refine HBL.out.mono ?_
  rintro e w' ⟨rfl, rfl⟩
  go_wp2_with fail
  refine HCL.out.mono ?_
  rintro e w2 ⟨B2, cap, rfl, ho, l2⟩
  have HP := Lib.hid (show ReadP l w' (.returned (.tuple #[.slice B2 128 cap, .bool true])) w2 from ⟨_, rfl, BV.own ho HBV.out.2.1 (own_capmax ho), l2, _, _, rfl⟩)
  clear ho l2 HCL
  go_wp2_with fail
  exact bodyPost_ret (v := .tuple #[.slice B2 128 cap, .bool true]) (by simp [results, Tryd.results49, go_sem]) rfl HP.out
end Go.Proofs.YtfplppldojlanaaDoor
