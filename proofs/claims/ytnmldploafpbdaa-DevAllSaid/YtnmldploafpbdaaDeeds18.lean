/- Slices of deeds of law 18 that came in, with their slices of bytes. -/
import Derived.Test.YtnmldploafpbdaaBase
namespace Go.Proofs.Ytnmldploafpbdaa
open Go.RowKit
set_option linter.unusedVariables false

/-- A slice of bytes, as it came in. -/
structure BSl where
  a : Option Addr
  n : Nat
  c : Nat
  l : List Nat
def BSl.v (s : BSl) : Value := .slice s.a s.n s.c
def BSl.ok (s : BSl) (w : World) : Prop := s.n = s.l.length ∧ (∀ x ∈ s.l, x < 256) ∧ Has w s.a (ints .u8 s.l) ∧ (s.a = none → s.c = 0) ∧ s.n ≤ 9223372036854775807
theorem BSl.ok.later {w w' : World} {s : BSl} (h : s.ok w) (k : Later w w') : s.ok w' := ⟨h.1, h.2.1, h.2.2.1.later k, h.2.2.2⟩
structure DeedS where
  k : Int
  i : Int
  n : Int
  torn : Int
  at_ : Int
  b : BSl
  keep : BSl
instance : Inhabited DeedS := ⟨⟨0, 0, 0, 0, 0, ⟨none, 0, 0, []⟩, ⟨none, 0, 0, []⟩⟩⟩
def DIn (x : Int) : Prop := -9223372036854775808 ≤ x ∧ x ≤ 9223372036854775807
def DeedS.ok (d : DeedS) (w : World) : Prop := (DIn d.k ∧ DIn d.i ∧ DIn d.n ∧ DIn d.torn ∧ DIn d.at_) ∧ d.b.ok w ∧ d.keep.ok w
theorem DeedS.ok.later {w w' : World} {d : DeedS} (h : d.ok w) (k : Later w w') : d.ok w' := ⟨h.1, h.2.1.later k, h.2.2.later k⟩
/-- A deed's cells. -/
def DeedAt (w : World) (b o : Nat) (d : DeedS) : Prop :=
  CellIs w ⟨b, o, none⟩ (.int .i64 d.k) ∧ CellIs w ⟨b, o + 1, none⟩ (.int .i64 d.i) ∧ CellIs w ⟨b, o + 2, none⟩ (.int .i64 d.n) ∧ CellIs w ⟨b, o + 3, none⟩ (.int .i64 d.torn) ∧ CellIs w ⟨b, o + 4, none⟩ (.int .i64 d.at_) ∧ CellIs w ⟨b, o + 5, none⟩ d.b.v ∧ CellIs w ⟨b, o + 6, none⟩ d.keep.v
theorem DeedAt.later {w w' : World} {b o : Nat} {d : DeedS} (h : DeedAt w b o d) (k : Later w w') : DeedAt w' b o d :=
  ⟨h.1.later k, h.2.1.later k, h.2.2.1.later k, h.2.2.2.1.later k, h.2.2.2.2.1.later k, h.2.2.2.2.2.1.later k, h.2.2.2.2.2.2.later k⟩
def IsDeeds7 (w : World) (a : Option Addr) (len cap : Nat) (l : List DeedS) : Prop :=
  l.length = len ∧ (∀ i, (hi : i < l.length) → ∃ b off, a = some ⟨b, off, none⟩ ∧ DeedAt w b (off + i * 7) l[i]) ∧ (∀ x ∈ l, x.ok w) ∧ len ≤ 9223372036854775807
theorem IsDeeds7.later {w w' : World} {a : Option Addr} {len cap : Nat} {l : List DeedS} (h : IsDeeds7 w a len cap l) (k : Later w w') : IsDeeds7 w' a len cap l := by
  refine ⟨h.1, fun i hi => ?_, fun x hx => (h.2.2.1 x hx).later k, h.2.2.2⟩
  obtain ⟨b, off, h1, h2⟩ := h.2.1 i hi
  exact ⟨b, off, h1, h2.later k⟩
section
variable {P : Program} {H : Type} {enc : TypeId × Value → H} {w : World}
theorem open_bsl {t e : TypeId} {fuel : Nat} {v : Value} {x : DataW H × List MemPlace} (ht : P.underlying t = some (.slice e)) (he : P.underlying e = some (.int .u8)) (ce : P.cellsOf e = 1)
    (h : DataW.trod enc P w 0 (fun _ => true) true fuel t [v] = some x) : ∃ s : BSl, v = s.v ∧ s.ok w := by
  rcases Go.ChangeShapes.open_ints ht he ce h with ⟨hcs, _⟩ | ⟨a, n, c, zs, hcs, _, hl, hm, hz, _, hcell, hwz⟩
  · injection hcs with hcs _
    subst hcs
    exact ⟨⟨none, 0, 0, []⟩, rfl, rfl, (fun x hx => by cases hx), .inl rfl, fun _ => rfl, by decide⟩
  · injection hcs with hcs _
    subst hcs
    have hd : (some a = none ∧ n = 0 ∧ c = 0 ∧ zs = []) ∨ ∃ x, some a = some x ∧ n ≤ c ∧ c ≤ maxLen ∧ zs.length = c ∧ (∀ i, i < zs.length → w.cell? (x.add i) = some (.int .u8 (zs.getD i 0))) ∧ ∀ n ∈ zs, (Lit.int .u8 n).wf = true := .inr ⟨a, rfl, hl, hm, by simpa using hz, hcell, hwz⟩
    obtain ⟨l, h1, h2, h3, h4, h5⟩ := of_row wf_u8 hd
    exact ⟨⟨some a, n, c, l⟩, rfl, h1.symm, h2, h3, (fun h => by cases h), by have := h4; have := h5; unfold maxLen at this; show n ≤ _; omega⟩
theorem open_deeds7 {t e eb : TypeId} {f0 f1 f2 f3 f4 f5 f6 : Field} {fuel : Nat} {a : Option Addr} {len cap : Nat} {x : DataW H × List MemPlace} (ht : P.underlying t = some (.slice e)) (he : P.underlying e = some (.struct #[f0, f1, f2, f3, f4, f5, f6])) (ce : P.cellsOf e = 7)
    (o0 : f0.offset = 0) (o1 : f1.offset = 1) (o2 : f2.offset = 2) (o3 : f3.offset = 3) (o4 : f4.offset = 4) (o5 : f5.offset = 5) (o6 : f6.offset = 6)
    (c0 : P.cellsOf f0.type = 1) (c1 : P.cellsOf f1.type = 1) (c2 : P.cellsOf f2.type = 1) (c3 : P.cellsOf f3.type = 1) (c4 : P.cellsOf f4.type = 1) (c5 : P.cellsOf f5.type = 1) (c6 : P.cellsOf f6.type = 1)
    (u0 : P.underlying f0.type = some (.int .i64)) (u1 : P.underlying f1.type = some (.int .i64)) (u2 : P.underlying f2.type = some (.int .i64)) (u3 : P.underlying f3.type = some (.int .i64)) (u4 : P.underlying f4.type = some (.int .i64))
    (u5 : P.underlying f5.type = some (.slice eb)) (u6 : P.underlying f6.type = some (.slice eb)) (ub : P.underlying eb = some (.int .u8)) (cb : P.cellsOf eb = 1)
    (h : DataW.trod enc P w 0 (fun _ => true) true fuel t (Value.slice a len cap).cells.toList = some x) : ∃ l, IsDeeds7 w a len cap l := by
  have w64 : ∀ n : Int, (Lit.int .i64 n).wf = true → DIn n := wf_i64
  rcases Deep.open_slice ht h with ⟨hcs, _⟩ | ⟨a', len', cap', m, n, D, Pl, hcs, _, hl, hm, hmm, _, hx⟩
  · simp [Value.cells] at hcs
    obtain ⟨rfl, rfl, rfl⟩ := hcs
    exact ⟨[], rfl, fun i hi => absurd hi (Nat.not_lt_zero _), (fun x hx => by cases hx), by decide⟩
  · simp [Value.cells] at hcs
    obtain ⟨rfl, rfl, rfl⟩ := hcs
    simp only [if_true] at hmm
    subst hmm
    have each : ∀ i, i < m → ∃ q : DeedS, w.cell? (a'.add (i * 7)) = some (.int .i64 q.k) ∧ w.cell? (a'.add (i * 7 + 1)) = some (.int .i64 q.i) ∧ w.cell? (a'.add (i * 7 + 2)) = some (.int .i64 q.n) ∧ w.cell? (a'.add (i * 7 + 3)) = some (.int .i64 q.torn) ∧ w.cell? (a'.add (i * 7 + 4)) = some (.int .i64 q.at_) ∧ w.cell? (a'.add (i * 7 + 5)) = some q.b.v ∧ w.cell? (a'.add (i * 7 + 6)) = some q.keep.v ∧ q.ok w := by
      intro i hi
      obtain ⟨cs', h1, h2⟩ := hx i hi
      rw [ce] at h1
      obtain ⟨_, hlen, hcell⟩ := World.cells?_some h1
      obtain ⟨xs, k, hk, hxy, _, hxl, hf⟩ := DataW.trod_struct he h2
      match xs, hxl, cs', hlen with
      | [y0, y1, y2, y3, y4, y5, y6], _, [v0', v1', v2', v3', v4', v5', v6'], _ =>
        have g0 := hf 0 f0 rfl
        have g1 := hf 1 f1 rfl
        have g2 := hf 2 f2 rfl
        have g3 := hf 3 f3 rfl
        have g4 := hf 4 f4 rfl
        have g5 := hf 5 f5 rfl
        have g6 := hf 6 f6 rfl
        simp [o0, o1, o2, o3, o4, o5, o6, c0, c1, c2, c3, c4, c5, c6] at g0 g1 g2 g3 g4 g5 g6
        obtain ⟨z0, hz0, _, hw0⟩ := DataW.trod_int u0 g0
        obtain ⟨z1, hz1, _, hw1⟩ := DataW.trod_int u1 g1
        obtain ⟨z2, hz2, _, hw2⟩ := DataW.trod_int u2 g2
        obtain ⟨z3, hz3, _, hw3⟩ := DataW.trod_int u3 g3
        obtain ⟨z4, hz4, _, hw4⟩ := DataW.trod_int u4 g4
        obtain ⟨s5, hs5, ok5⟩ := open_bsl u5 ub cb g5
        obtain ⟨s6, hs6, ok6⟩ := open_bsl u6 ub cb g6
        have e0 := hcell 0 (by omega)
        have e1 := hcell 1 (by omega)
        have e2 := hcell 2 (by omega)
        have e3 := hcell 3 (by omega)
        have e4 := hcell 4 (by omega)
        have e5 := hcell 5 (by omega)
        have e6 := hcell 6 (by omega)
        rw [Deep.add_add] at e0 e1 e2 e3 e4 e5 e6
        have v0e : v0' = .int .i64 z0 := by simpa using hz0
        have v1e : v1' = .int .i64 z1 := by simpa using hz1
        have v2e : v2' = .int .i64 z2 := by simpa using hz2
        have v3e : v3' = .int .i64 z3 := by simpa using hz3
        have v4e : v4' = .int .i64 z4 := by simpa using hz4
        refine ⟨⟨z0, z1, z2, z3, z4, s5, s6⟩, ?_, ?_, ?_, ?_, ?_, ?_, ?_, ⟨w64 _ hw0, w64 _ hw1, w64 _ hw2, w64 _ hw3, w64 _ hw4⟩, ok5, ok6⟩
        · simpa [v0e] using e0
        · simpa [v1e] using e1
        · simpa [v2e] using e2
        · simpa [v3e] using e3
        · simpa [v4e] using e4
        · simpa [hs5] using e5
        · simpa [hs6] using e6
    obtain ⟨q, hq⟩ := Deep.choose_lt each
    refine ⟨(List.range len).map q, by simp, ?_, ?_, by unfold maxLen at hm; omega⟩
    · intro i hi
      have hi' : i < len := by simpa using hi
      obtain ⟨b, off, spot⟩ := a'
      obtain ⟨q0, q1, q2, q3, q4, q5, q6, _⟩ := hq i (by omega)
      have hspot : spot = none := by simpa [Addr.add] using World.cell?_spot (hq 0 (by omega)).1
      subst hspot
      rw [add_plain] at q0 q1 q2 q3 q4 q5 q6
      refine ⟨b, off, rfl, ?_, ?_, ?_, ?_, ?_, ?_, ?_⟩ <;> unfold CellIs
      · simpa using q0
      · simpa [Nat.add_assoc] using q1
      · simpa [Nat.add_assoc] using q2
      · simpa [Nat.add_assoc] using q3
      · simpa [Nat.add_assoc] using q4
      · simpa [Nat.add_assoc] using q5
      · simpa [Nat.add_assoc] using q6
    · intro x hx
      obtain ⟨i, hi, rfl⟩ := List.mem_map.1 hx
      exact (hq i (by have := List.mem_range.1 hi; omega)).2.2.2.2.2.2.2
end

def lightL (l : List DeedS) : Bool := l.all (fun d => decide (d.b.n ≤ 200) && decide (d.keep.n ≤ 20)) && decide (l.length ≤ 40)
def LiI (L : List DeedS) (w : World) (iv : Value) (wr : World) : Prop := ∃ i : Nat, iv = .int .i64 i ∧ i ≤ L.length ∧ wr = w ∧ ∀ j, (h : j < L.length) → j < i → L[j].b.n ≤ 200 ∧ L[j].keep.n ≤ 20
theorem LiI.mk {L : List DeedS} {w : World} (a : Int) (i : Nat) (ha : a = (i : Int)) (hi : i ≤ L.length) (h : ∀ j, (h : j < L.length) → j < i → L[j].b.n ≤ 200 ∧ L[j].keep.n ≤ 20) : LiI L w (.int .i64 a) w := by
  subst ha; exact ⟨i, rfl, hi, rfl, h⟩
set_option maxRecDepth 100000 in
set_option maxHeartbeats 1000000 in
theorem light_any (a : Option Addr) (len cap : Nat) (L : List DeedS) (w : World) (h : IsDeeds7 w a len cap L) :
    Calls Try.prog 8 #[.slice a len cap] w fun e w' => e = .returned (.bool (lightL L)) ∧ w' = w := by
  have HD := Lib.hid h
  have hlen := h.2.2.2
  have HL := Lib.hid h.1
  clear h
  go_enter Try.func8, Try.ntmps8
  go_wp2_with fail
  go_loopw [3] (fun iv wr => LiI L w iv wr) (fun iv _ => len - (intOf iv).toNat)
  case atStart => exact LiI.mk 0 0 rfl (Nat.zero_le _) (fun j _ h => absurd h (Nat.not_lt_zero _))
  case round =>
    obtain ⟨i, rfl, hi, rfl, hall⟩ := hrel
    have HALL := Lib.hid hall
    by_cases hlt : i < len
    · have hiL : i < L.length := by rw [HL.out]; exact hlt
      obtain ⟨b, off, rfl, _, _, _, _, _, c5, c6⟩ := HD.out.2.1 i hiL
      have hok := HD.out.2.2.1 _ (List.getElem_mem hiL)
      have hbn := hok.2.1.2.2.2.2
      have hkn := hok.2.2.2.2.2.2
      have k5 := c5.out
      have k6 := c6.out
      obtain ⟨D, hD⟩ : ∃ D, D = L[i] := ⟨_, rfl⟩
      rw [← hD] at k5 k6 hbn hkn
      have HDD := Lib.hid hD
      unfold BSl.v at k5 k6
      clear hall c5 c6 hok hD hi
      by_cases h1 : D.b.n ≤ 200
      · have d1 : decide ((200 : Int) < (D.b.n : Int)) = false := by simp; omega
        by_cases h2 : D.keep.n ≤ 20
        · have d2 : decide ((20 : Int) < (D.keep.n : Int)) = false := by simp; omega
          go_wp2_with fail
          go_roundw
          case rel => exact LiI.mk _ (i + 1) (by go_num) hiL (fun j hj hji => by
            by_cases h : j < i
            · exact HALL.out j hj h
            · have : j = i := by omega
              subst this
              rw [← HDD.out]; exact ⟨h1, h2⟩)
          case measure => simp [intOf]; omega
        · have d2 : decide ((20 : Int) < (D.keep.n : Int)) = true := by simp; omega
          go_wp2_with fail
          go_ret
          refine ⟨?_, rfl⟩
          have : lightL L = false := by
            unfold lightL
            rw [Bool.and_eq_false_iff]; left
            rw [List.all_eq_false]
            exact ⟨L[i], List.getElem_mem hiL, by rw [← HDD.out]; simp [h2]⟩
          rw [this]; rfl
      · have d1 : decide ((200 : Int) < (D.b.n : Int)) = true := by simp; omega
        go_wp2_with fail
        go_ret
        refine ⟨?_, rfl⟩
        have : lightL L = false := by
          unfold lightL
          rw [Bool.and_eq_false_iff]; left
          rw [List.all_eq_false]
          exact ⟨L[i], List.getElem_mem hiL, by rw [← HDD.out]; simp [h1]⟩
        rw [this]; rfl
    · have hil : i = len := by have := HL.out; omega
      subst hil
      clear hall hi
      go_wp2_with fail
      go_ret
      refine ⟨?_, rfl⟩
      have : lightL L = decide ((i : Int) ≤ 40) := by
        unfold lightL
        rw [show (L.all fun d => decide (d.b.n ≤ 200) && decide (d.keep.n ≤ 20)) = true from by
          rw [List.all_eq_true]
          intro x hx
          obtain ⟨j, hj, rfl⟩ := List.getElem_of_mem hx
          have := HALL.out j hj (by have := HL.out; omega)
          simp [this.1, this.2]]
        rw [HL.out, Bool.true_and]
        exact decide_eq_decide.2 (by omega)
      rw [this]; rfl
end Go.Proofs.Ytnmldploafpbdaa
