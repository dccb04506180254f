/- schema: a change on its way (turn), and its small deeds: laid, maySplit, recode, resort, repart. (tools/gen_schT.py) -/
import Derived.Test.YtklohbglkbhjhaaDoorSchC
import Derived.Test.YtklohbglkbhjhaaDoorSchI
import Derived.Test.YtklohbglkbhjhaaDoorTab
namespace Go.Proofs.YtklohbglkbhjhaaDoor
open Go.RowKit
set_option linter.unusedVariables false

/-- The sentinels of schema, by their numbers. -/
structure S15 (w : World) (f : Int → Addr) : Prop where
  c1 : w.cell? ⟨1, 0, none⟩ = some (.iface 143 (.pointer (some (f 1))))
  c3 : w.cell? ⟨0, 0, none⟩ = some (.iface 143 (.pointer (some (f 3))))
  c9 : w.cell? ⟨2, 0, none⟩ = some (.iface 143 (.pointer (some (f 9))))
  c4 : w.cell? ⟨3, 0, none⟩ = some (.iface 143 (.pointer (some (f 4))))
  c6 : w.cell? ⟨4, 0, none⟩ = some (.iface 143 (.pointer (some (f 6))))
  blk : ∀ n, n ∈ [(1 : Int), 3, 4, 6, 9] → ∃ c t, w.heap[(f n).block]? = some (.cells c t (0, 0))
  ne : ∀ m n, m ∈ [(1 : Int), 3, 4, 6, 9] → n ∈ [(1 : Int), 3, 4, 6, 9] → m ≠ n → f m ≠ f n
theorem S15.later {w w' : World} {f : Int → Addr} (h : S15 w f) (l : Later w w') : S15 w' f :=
  ⟨l.cell h.c1, l.cell h.c3, l.cell h.c9, l.cell h.c4, l.cell h.c6, fun n hn => by
    obtain ⟨c, t, h1⟩ := h.blk n hn
    exact ⟨c, t, (l.block _ (Array.getElem?_eq_some_iff.1 h1).1).trans h1⟩, h.ne⟩
/-- An error that fault.At has wrapped. -/
def Er1 (w : World) (v : Value) (a : Addr) : Prop := ∃ p : Nat, v = .iface 112 (.pointer (some ⟨p, 0, none⟩)) ∧ w.cell? ⟨p, 2, none⟩ = some (.iface 143 (.pointer (some a)))
theorem Er1.later {w w' : World} {v : Value} {a : Addr} (h : Er1 w v a) (l : Later w w') : Er1 w' v a := by
  obtain ⟨p, h1, h2⟩ := h
  exact ⟨p, h1, l.cell h2⟩
theorem at_er (s : ByteArray) (p : Int) (a : Addr) (w : World) :
    Calls Tryd.prog 60 #[.string s, .int .i64 p, .iface 143 (.pointer (some a))] w fun r w' => ∃ v, r = .returned v ∧ Er1 w' v a ∧ Later w w' :=
  (at_any s p _ _ w rfl).mono fun r w' ⟨h1, h2⟩ => ⟨_, h1, ⟨w.heap.size, rfl, by rw [← h2]; exact (Blk.new w _ _ _ rfl).cell 2 _ rfl⟩, h2 ▸ Later.new _ _⟩

/-- The cells of a change on its way. -/
def tcells (s : St3) (c : Chg) (gv vc ge ec : Nat) : Array Value := #[.slice (some ⟨gv, 0, none⟩) s.1.length vc, .int .i64 s.2.1, .int .i64 s.2.2.sb, .int .i64 s.2.2.pb, .int .i64 s.2.2.parts, .slice (some ⟨ge, 0, none⟩) s.2.2.enc.length ec, .int .i64 c.kind, .int .i64 c.col, .string c.name, .int .i64 c.typ, .int .i64 c.val.1, .int .i64 c.val.2.1, .string c.val.2.2, .int .u8 c.sep, .int .i64 c.num]
structure TS (B p : Nat) (w : World) (s : St3) (c : Chg) (gv vc ge ec : Nat) : Prop where
  blk : Blk w p (tcells s c gv vc ge ec) 78
  cols : w.ownsRow B 59 3 (.slice (some ⟨gv, 0, none⟩) s.1.length vc) s.1.length (fc s.1)
  encs : w.ownsRow B 3 1 (.slice (some ⟨ge, 0, none⟩) s.2.2.enc.length ec) s.2.2.enc.length (ein s.2.2.enc)
  ne1 : gv ≠ p
  ne2 : ge ≠ p
  ne3 : gv ≠ ge
  hp : B ≤ p
  lens : s.2.2.enc.length = s.1.length
  small : 1 ≤ s.1.length ∧ s.1.length ≤ 6
  last : 1 ≤ s.2.1 ∧ s.2.1 ≤ 10000
theorem TS.later {B p : Nat} {w w' : World} {s : St3} {c : Chg} {gv vc ge ec : Nat} (h : TS B p w s c gv vc ge ec) (l : Later w w') : TS B p w' s c gv vc ge ec :=
  ⟨h.blk.later l, own_later h.cols l, own_later h.encs l, h.ne1, h.ne2, h.ne3, h.hp, h.lens, h.small, h.last⟩
theorem TS.d0 {B p : Nat} {w : World} {s : St3} {c : Chg} {gv vc ge ec : Nat} (h : TS B p w s c gv vc ge ec) : w.cell? ⟨p, 0, none⟩ = some (.slice (some ⟨gv, 0, none⟩) s.1.length vc) := h.blk.cell 0 _ rfl
theorem TS.d1 {B p : Nat} {w : World} {s : St3} {c : Chg} {gv vc ge ec : Nat} (h : TS B p w s c gv vc ge ec) : w.cell? ⟨p, 1, none⟩ = some (.int .i64 s.2.1) := h.blk.cell 1 _ rfl
theorem TS.d2 {B p : Nat} {w : World} {s : St3} {c : Chg} {gv vc ge ec : Nat} (h : TS B p w s c gv vc ge ec) : w.cell? ⟨p, 2, none⟩ = some (.int .i64 s.2.2.sb) := h.blk.cell 2 _ rfl
theorem TS.d3 {B p : Nat} {w : World} {s : St3} {c : Chg} {gv vc ge ec : Nat} (h : TS B p w s c gv vc ge ec) : w.cell? ⟨p, 3, none⟩ = some (.int .i64 s.2.2.pb) := h.blk.cell 3 _ rfl
theorem TS.d4 {B p : Nat} {w : World} {s : St3} {c : Chg} {gv vc ge ec : Nat} (h : TS B p w s c gv vc ge ec) : w.cell? ⟨p, 4, none⟩ = some (.int .i64 s.2.2.parts) := h.blk.cell 4 _ rfl
theorem TS.d5 {B p : Nat} {w : World} {s : St3} {c : Chg} {gv vc ge ec : Nat} (h : TS B p w s c gv vc ge ec) : w.cell? ⟨p, 5, none⟩ = some (.slice (some ⟨ge, 0, none⟩) s.2.2.enc.length ec) := h.blk.cell 5 _ rfl
theorem TS.d6 {B p : Nat} {w : World} {s : St3} {c : Chg} {gv vc ge ec : Nat} (h : TS B p w s c gv vc ge ec) : w.cell? ⟨p, 6, none⟩ = some (.int .i64 c.kind) := h.blk.cell 6 _ rfl
theorem TS.d7 {B p : Nat} {w : World} {s : St3} {c : Chg} {gv vc ge ec : Nat} (h : TS B p w s c gv vc ge ec) : w.cell? ⟨p, 7, none⟩ = some (.int .i64 c.col) := h.blk.cell 7 _ rfl
theorem TS.d8 {B p : Nat} {w : World} {s : St3} {c : Chg} {gv vc ge ec : Nat} (h : TS B p w s c gv vc ge ec) : w.cell? ⟨p, 8, none⟩ = some (.string c.name) := h.blk.cell 8 _ rfl
theorem TS.d9 {B p : Nat} {w : World} {s : St3} {c : Chg} {gv vc ge ec : Nat} (h : TS B p w s c gv vc ge ec) : w.cell? ⟨p, 9, none⟩ = some (.int .i64 c.typ) := h.blk.cell 9 _ rfl
theorem TS.d10 {B p : Nat} {w : World} {s : St3} {c : Chg} {gv vc ge ec : Nat} (h : TS B p w s c gv vc ge ec) : w.cell? ⟨p, 10, none⟩ = some (.int .i64 c.val.1) := h.blk.cell 10 _ rfl
theorem TS.d11 {B p : Nat} {w : World} {s : St3} {c : Chg} {gv vc ge ec : Nat} (h : TS B p w s c gv vc ge ec) : w.cell? ⟨p, 11, none⟩ = some (.int .i64 c.val.2.1) := h.blk.cell 11 _ rfl
theorem TS.d12 {B p : Nat} {w : World} {s : St3} {c : Chg} {gv vc ge ec : Nat} (h : TS B p w s c gv vc ge ec) : w.cell? ⟨p, 12, none⟩ = some (.string c.val.2.2) := h.blk.cell 12 _ rfl
theorem TS.d13 {B p : Nat} {w : World} {s : St3} {c : Chg} {gv vc ge ec : Nat} (h : TS B p w s c gv vc ge ec) : w.cell? ⟨p, 13, none⟩ = some (.int .u8 c.sep) := h.blk.cell 13 _ rfl
theorem TS.d14 {B p : Nat} {w : World} {s : St3} {c : Chg} {gv vc ge ec : Nat} (h : TS B p w s c gv vc ge ec) : w.cell? ⟨p, 14, none⟩ = some (.int .i64 c.num) := h.blk.cell 14 _ rfl
/-- A cell of the change's own is written. -/
theorem TS.put {B p : Nat} {w : World} {s s' : St3} {c c' : Chg} {gv vc ge ec : Nat} (h : TS B p w s c gv vc ge ec) (k : Nat) (v : Value) (hb : (tcells s c gv vc ge ec).setIfInBounds k v = tcells s' c' gv vc ge ec) (h1 : s'.1 = s.1) (h2 : s'.2.2.enc = s.2.2.enc) (h3 : 1 ≤ s'.2.1 ∧ s'.2.1 ≤ 10000) : TS B p (w.setCell ⟨p, k, none⟩ v) s' c' gv vc ge ec := by
  refine ⟨by rw [← hb]; exact h.blk.set_ k v, ?_, ?_, h.ne1, h.ne2, h.ne3, h.hp, by rw [h1, h2]; exact h.lens, by rw [h1]; exact h.small, h3⟩
  · rw [h1]; exact own_apart h.cols (only_setCell (g := p) (World.grownBy.refl _ _) (.inl rfl) v) (fun q hq e => by injection hq with hq; injection e with e; exact h.ne1 (hq.trans e))
  · rw [h2]; exact own_apart h.encs (only_setCell (g := p) (World.grownBy.refl _ _) (.inl rfl) v) (fun q hq e => by injection hq with hq; injection e with e; exact h.ne2 (hq.trans e))
/-- What a deed makes of it. -/
def TurnP (W0 : World) (p : Nat) (f : Int → Addr) (o : Except Int St3) (e : Ending) (w' : World) : Prop :=
  Later W0 w' ∧ ((∃ n v, o = .error n ∧ n ∈ [(1 : Int), 3, 4, 6, 9] ∧ e = .returned v ∧ Er1 w' v (f n)) ∨ (∃ s' c' gv vc ge ec, o = .ok s' ∧ e = .returned .nilIface ∧ TS W0.heap.size p w' s' c' gv vc ge ec))
theorem TurnP.no {W0 : World} {p : Nat} {f : Int → Addr} {o : Except Int St3} {v : Value} {w' : World} (n : Int) (ho : o = .error n) (hn : n ∈ [(1 : Int), 3, 4, 6, 9]) (he : Er1 w' v (f n)) (l : Later W0 w') : TurnP W0 p f o (.returned v) w' := ⟨l, .inl ⟨n, v, ho, hn, rfl, he⟩⟩
theorem TurnP.yes {W0 : World} {p : Nat} {f : Int → Addr} {o : Except Int St3} {w' : World} {s' : St3} {c' : Chg} {gv vc ge ec : Nat} (ho : o = .ok s') (h : TS W0.heap.size p w' s' c' gv vc ge ec) (l : Later W0 w') : TurnP W0 p f o (.returned .nilIface) w' := ⟨l, .inr ⟨s', c', gv, vc, ge, ec, ho, rfl, h⟩⟩

set_option maxRecDepth 100000 in
theorem laid_any (B p : Nat) (w : World) (s : St3) (c : Chg) (gv vc ge ec : Nat) (T : TS B p w s c gv vc ge ec) :
    Calls Tryd.prog 86 #[.pointer (some ⟨p, 0, none⟩)] w fun e w' => e = .returned (.bool (decide (heldM s c))) ∧ Later w w' := by
  obtain ⟨l, last, m⟩ := s
  obtain ⟨sb, pb, parts, enc⟩ := m
  obtain ⟨kd, x, nm, ty, v, sp, nn⟩ := c
  have d2 := T.d2
  have d3 := T.d3
  have d7 := T.d7
  clear T
  dsimp only at d2 d3 d7
  show Calls Tryd.prog 86 #[.pointer (some ⟨p, 0, none⟩)] w fun e w' => e = .returned (.bool (decide (x = sb ∨ x = pb))) ∧ Later w w'
  by_cases h1 : x = sb
  · subst h1
    have hb1 : (x == x) = true := by simp
    have HX := Lib.hid (show decide (x = x ∨ x = pb) = true from by simp)
    go_enter Tryd.func86, Tryd.ntmps86
    go_wp2_with fail
    go_quiet (fail)
    go_wp2_with fail
    go_ret
    exact ⟨by rw [HX.out]; rfl, (Later.refl _).drewN _⟩
  · by_cases h2 : x = pb
    · subst h2
      have hb1 : (x == sb) = false := by simp; exact h1
      have HX := Lib.hid (show decide (x = sb ∨ x = x) = true from by simp)
      go_enter Tryd.func86, Tryd.ntmps86
      go_wp2_with fail
      go_quiet (fail)
      go_wp2_with fail
      go_ret
      exact ⟨by rw [HX.out]; rfl, (Later.refl _).drewN _⟩
    · have hb1 : (x == sb) = false := by simp; exact h1
      have hb2 : (x == pb) = false := by simp; exact h2
      have HX := Lib.hid (show decide (x = sb ∨ x = pb) = false from by simp [h1, h2])
      go_enter Tryd.func86, Tryd.ntmps86
      go_wp2_with fail
      go_quiet (fail)
      go_wp2_with fail
      go_ret
      exact ⟨by rw [HX.out]; rfl, (Later.refl _).drewN _⟩

theorem ein_set (l : List Int) (i : Nat) (x : Int) : (ein l).set i (.int .i64 x) = ein (l.set i x) := by
  unfold ein
  rw [List.map_set]
theorem TS.encSet {B p : Nat} {w : World} {s : St3} {c : Chg} {gv vc ge ec : Nat} (h : TS B p w s c gv vc ge ec) (i : Nat) (x : Int) : TS B p (w.setCell ⟨ge, i, none⟩ (.int .i64 x)) (s.1, s.2.1, { s.2.2 with enc := s.2.2.enc.set i x }) c gv vc ge ec := by
  obtain ⟨h1, h2⟩ := h.encs.stored i (.int .i64 x)
  have hl : (s.2.2.enc.set i x).length = s.2.2.enc.length := List.length_set
  refine ⟨?_, ?_, ?_, h.ne1, h.ne2, h.ne3, h.hp, by show (s.2.2.enc.set i x).length = s.1.length; rw [hl]; exact h.lens, h.small, h.last⟩
  · have hb := h.blk.far (p := ⟨ge, i, none⟩) (fun e => h.ne2 e.symm) (.int .i64 x)
    have e : tcells (s.1, s.2.1, { s.2.2 with enc := s.2.2.enc.set i x }) c gv vc ge ec = tcells s c gv vc ge ec := by
      unfold tcells; dsimp only; rw [hl]
    rw [e]; exact hb
  · exact own_apart h.cols h2 (fun q hq e => by injection hq with hq; injection e with e; exact h.ne3 (hq.trans e))
  · show World.ownsRow _ B 3 1 (.slice (some ⟨ge, 0, none⟩) (s.2.2.enc.set i x).length ec) (s.2.2.enc.set i x).length (ein (s.2.2.enc.set i x))
    rw [hl, ← ein_set]; exact h1
theorem fc_set1 : ∀ (l : List Col3) (i : Nat) (x : ByteArray), i < l.length → (fc l).set (i * 3 + 1) (.string x) = fc (nameAt l i x)
  | [], i, x, h => by simp at h
  | y :: r, 0, x, _ => rfl
  | y :: r, i + 1, x, h => by
    have ih := fc_set1 r i x (by simpa using h)
    rw [show (i + 1) * 3 + 1 = (i * 3 + 1) + 1 + 1 + 1 by omega]
    show [_, _, _] ++ ((fc r).set (i * 3 + 1) _) = [_, _, _] ++ fc (nameAt r i x)
    rw [ih]
theorem fc_set2 : ∀ (l : List Col3) (i : Nat) (x : Int), i < l.length → (fc l).set (i * 3 + 2) (.int .i64 x) = fc (typeAt l i x)
  | [], i, x, h => by simp at h
  | y :: r, 0, x, _ => rfl
  | y :: r, i + 1, x, h => by
    have ih := fc_set2 r i x (by simpa using h)
    rw [show (i + 1) * 3 + 2 = (i * 3 + 2) + 1 + 1 + 1 by omega]
    show [_, _, _] ++ ((fc r).set (i * 3 + 2) _) = [_, _, _] ++ fc (typeAt r i x)
    rw [ih]
theorem TS.colSet {B p : Nat} {w : World} {s : St3} {c : Chg} {gv vc ge ec : Nat} (h : TS B p w s c gv vc ge ec) (o : Nat) (v : Value) (l : List Col3) (hl : l.length = s.1.length) (hc : (fc s.1).set o v = fc l) : TS B p (w.setCell ⟨gv, o, none⟩ v) (l, s.2) c gv vc ge ec := by
  obtain ⟨h1, h2⟩ := h.cols.stored o v
  refine ⟨?_, ?_, ?_, h.ne1, h.ne2, h.ne3, h.hp, by show s.2.2.enc.length = l.length; rw [hl]; exact h.lens, by show 1 ≤ l.length ∧ l.length ≤ 6; rw [hl]; exact h.small, h.last⟩
  · have hb := h.blk.far (p := ⟨gv, o, none⟩) (fun e => h.ne1 e.symm) v
    have e : tcells (l, s.2) c gv vc ge ec = tcells s c gv vc ge ec := by
      unfold tcells; dsimp only; rw [hl]
    rw [e]; exact hb
  · show World.ownsRow _ B 59 3 (.slice (some ⟨gv, 0, none⟩) l.length vc) l.length (fc l)
    rw [hl, ← hc]; exact h1
  · exact own_apart h.encs h2 (fun q hq e => by injection hq with hq; injection e with e; exact h.ne3 (e.symm.trans hq.symm))
theorem TS.ge {B p : Nat} {w : World} {s : St3} {c : Chg} {gv vc ge ec : Nat} (h : TS B p w s c gv vc ge ec) : B ≤ ge := (own_capG h.encs).2.2.1
theorem TS.gv {B p : Nat} {w : World} {s : St3} {c : Chg} {gv vc ge ec : Nat} (h : TS B p w s c gv vc ge ec) : B ≤ gv := (own_capG h.cols).2.2.1
theorem TS.encCell {B p : Nat} {w : World} {s : St3} {c : Chg} {gv vc ge ec : Nat} (h : TS B p w s c gv vc ge ec) (i : Nat) (hi : i < s.1.length) : (∃ u, w.cell? ⟨ge, i, none⟩ = some u) ∧ w.frozen? ⟨ge, i, none⟩ = false := by
  have h1 := own_capG h.encs
  have := h.lens
  exact ⟨Option.isSome_iff_exists.1 (h1.2.2.2.2 i (by omega)), h.encs.frozenAt i⟩
theorem TS.col {B p : Nat} {w : World} {s : St3} {c : Chg} {gv vc ge ec : Nat} (h : TS B p w s c gv vc ge ec) (i : Nat) (hi : i < s.1.length) : w.cell? ⟨gv, i * 3, none⟩ = some (.int .i64 s.1[i].1) ∧ w.cell? ⟨gv, i * 3 + 1, none⟩ = some (.string s.1[i].2.1) ∧ w.cell? ⟨gv, i * 3 + 2, none⟩ = some (.int .i64 s.1[i].2.2) ∧ w.frozen? ⟨gv, i * 3 + 1, none⟩ = false ∧ w.frozen? ⟨gv, i * 3 + 2, none⟩ = false := by
  obtain ⟨b, o, hA, h0, h1, h2⟩ := (Has.ownG h.cols).col3 i hi
  injection hA with hA
  injection hA with e1 e2
  subst e1 e2
  rw [Nat.zero_add] at h0 h1 h2
  exact ⟨h0, h1, h2, h.cols.frozenAt _, h.cols.frozenAt _⟩
theorem TS.frz {B p : Nat} {w : World} {s : St3} {c : Chg} {gv vc ge ec : Nat} (h : TS B p w s c gv vc ge ec) (k : Nat) : w.frozen? ⟨p, k, none⟩ = false := h.blk.frozen k
theorem typOf_at {l : List Col3} {i : Nat} (h : i < l.length) : typOf l i = l[i].2.2 := by
  unfold typOf
  rw [List.getD_eq_getElem?_getD, List.getElem?_eq_getElem h]; rfl

set_option maxRecDepth 100000 in
set_option maxHeartbeats 2000000 in
theorem recode_any (W0 : World) (p : Nat) (w : World) (f : Int → Addr) (s : St3) (c : Chg) (gv vc ge ec i : Nat) (hs : S15 W0 f) (hl : Later W0 w) (T : TS W0.heap.size p w s c gv vc ge ec) (hi : i < s.1.length) :
    Calls Tryd.prog 77 #[.pointer (some ⟨p, 0, none⟩), .int .i64 i] w (TurnP W0 p f (recodeM s c i)) := by
  have d5 := T.d5
  have d14 := T.d14
  have HT := Lib.hid T
  have HS := Lib.hid (hs.later hl)
  have HL := Lib.hid hl
  have HC := Lib.hid (isEnc_any c.num w)
  have hin : (i : Int) < (s.2.2.enc.length : Int) := by have := T.lens; omega
  have hlen : s.2.2.enc.length ≤ 6 := by have := T.lens; have := T.small; omega
  have hcap := ownG_cap T.encs
  have hcm := ownG_capmax T.encs
  have HI := Lib.hid hi
  clear hs hl T hi
  go_enter Tryd.func77, Tryd.ntmps77
  go_wp2_with fail
  refine HC.out.mono ?_
  clear HC
  by_cases hx : EncL c.num
  · rintro e w2 ht
    obtain ⟨rfl, l2⟩ := ht.yes hx
    have HX := Lib.hid (show recodeM s c i = .ok (s.1, s.2.1, { s.2.2 with enc := s.2.2.enc.set i c.num }) from if_neg (fun h => h hx))
    have HT2 := Lib.hid (HT.out.later l2)
    have HL2 := Lib.hid (HL.out.trans l2)
    have d5 := l2.cell d5
    have d14 := l2.cell d14
    obtain ⟨⟨u0, d0⟩, hfz⟩ := HT2.out.encCell i HI.out
    have HR := Lib.hid (HT2.out.encSet i c.num)
    have HLR := Lib.hid (show Later W0 (w2.setCell ⟨ge, i, none⟩ (.int .i64 c.num)) from HL2.out.set_ HT2.out.ge _)
    clear ht l2 hx HT HS
    go_wp2_with fail
    go_region
    all_goals go_wp2_with fail
    all_goals go_ret
    all_goals exact TurnP.yes HX.out (HR.out.later (Later.refl _).drew) HLR.out.drew
  · rintro e w2 ht
    obtain ⟨rfl, l2⟩ := ht.no hx
    have HX := Lib.hid (show recodeM s c i = .error 1 from if_pos hx)
    have HL2 := Lib.hid (HL.out.trans l2)
    have d14 := l2.cell d14
    have x1 := (HS.out.later l2).c1
    clear ht l2 hx HT HS d5
    go_wp2_with fail
    go_region_law (go_simp; go_at_call 60; refine (at_er _ _ _ _).mono ?_; rintro e w3 ⟨v, rfl, hv, l3⟩; have HV := Lib.hid hv; have HL3 := Lib.hid (HL2.out.drew.trans l3); clear hv l3)
    all_goals (try go_wp2_with fail)
    all_goals go_ret
    all_goals exact TurnP.no 1 HX.out (by decide) HV.out HL3.out

set_option maxRecDepth 100000 in
set_option maxHeartbeats 2000000 in
theorem resort_any (W0 : World) (p : Nat) (w : World) (f : Int → Addr) (s : St3) (c : Chg) (gv vc ge ec : Nat) (hs : S15 W0 f) (hl : Later W0 w) (T : TS W0.heap.size p w s c gv vc ge ec) :
    Calls Tryd.prog 62 #[.pointer (some ⟨p, 0, none⟩), .bool (findI s.1 c.col).isSome] w (TurnP W0 p f (resortM s c)) := by
  have d7 := T.d7
  have d2 := T.d2
  have fz := T.frz 2
  have HT := Lib.hid T
  have HS := Lib.hid (hs.later hl)
  have HL := Lib.hid hl
  have x3 := HS.out.c3
  clear hs hl T
  by_cases h0 : c.col = 0
  · have HX := Lib.hid (show resortM s c = .ok (s.1, s.2.1, { s.2.2 with sb := c.col }) from if_neg (fun h => h.1 h0))
    have HR := Lib.hid (HT.out.put (s' := (s.1, s.2.1, { s.2.2 with sb := c.col })) (c' := c) 2 (.int .i64 c.col) rfl rfl rfl HT.out.last)
    have HLR := Lib.hid (show Later W0 (w.setCell ⟨p, 2, none⟩ (.int .i64 c.col)) from HL.out.set_ HT.out.hp _)
    go_enter Tryd.func62, Tryd.ntmps62
    rw [h0] at d7 HX HR HLR
    clear h0
    go_wp2_with fail
    go_ret
    exact TurnP.yes HX.out HR.out HLR.out
  · rcases hf : (findI s.1 c.col).isSome with _ | _
    · have HX := Lib.hid (show resortM s c = .error 3 from if_pos ⟨h0, hf⟩)
      clear hf HT HS
      go_enter Tryd.func62, Tryd.ntmps62
      go_wp2_with fail
      go_region_law (go_simp; go_at_call 60; refine (at_er _ _ _ _).mono ?_; rintro e w3 ⟨v, rfl, hv, l3⟩; have HV := Lib.hid hv; have HL3 := Lib.hid (HL.out.drew.trans l3); clear hv l3)
      all_goals (try go_wp2_with fail)
      all_goals go_ret
      all_goals exact TurnP.no 3 HX.out (by decide) HV.out HL3.out
    · have HX := Lib.hid (show resortM s c = .ok (s.1, s.2.1, { s.2.2 with sb := c.col }) from if_neg (fun h => by rw [hf] at h; cases h.2))
      have HR := Lib.hid (HT.out.put (s' := (s.1, s.2.1, { s.2.2 with sb := c.col })) (c' := c) 2 (.int .i64 c.col) rfl rfl rfl HT.out.last)
      have HLR := Lib.hid (show Later W0 (w.setCell ⟨p, 2, none⟩ (.int .i64 c.col)) from HL.out.set_ HT.out.hp _)
      clear hf
      go_enter Tryd.func62, Tryd.ntmps62
      go_wp2_with fail
      go_ret
      exact TurnP.yes HX.out HR.out HLR.out
end Go.Proofs.YtklohbglkbhjhaaDoor
