/- The walk of rabbetplay's Num, of any number; what a world leaves alone but one block. -/
import Derived.Test.YtiacemlloaenoaaDoorPlayV
import Derived.Test.YtiacemlloaenoaaDoorRowsM
namespace Go.Proofs.YtiacemlloaenoaaDoor
open Go.RowKit
set_option linter.unusedVariables false

theorem Far.below {g : Nat} {w w' w'' : World} (h : Far g w w') (hb : Below w.heap.size w' w'') : Far g w w'' :=
  ⟨h.1, Below.trans h.2.1 (hb.mono (Nat.le_of_lt h.1)), fun j hj hne => (hb.block j hj).trans (h.2.2 j hj hne)⟩
/-- The picks, where they lie, what bytes they are. -/
structure Pks (w : World) (g : Nat) (A : Option Addr) (n c : Nat) (bs : List Nat) : Prop where
  pk : ∃ k, k ≤ n ∧ Pk w g A n c k
  rd : Rd w g A (ints .u8 bs)
theorem Pks.lt {w : World} {g : Nat} {A : Option Addr} {n c : Nat} {bs : List Nat} (h : Pks w g A n c bs) : g < w.heap.size := h.pk.elim fun _ h => h.2.lt
theorem Pks.later {w w' : World} {g : Nat} {A : Option Addr} {n c : Nat} {bs : List Nat} (h : Pks w g A n c bs) (l : Later w w') : Pks w' g A n c bs :=
  ⟨h.pk.elim fun k h => ⟨k, h.1, h.2.later l⟩, Rd.below h.rd (l.below.mono (Nat.le_of_lt h.lt))⟩
theorem Pks.below {w w' : World} {g B : Nat} {A : Option Addr} {n c : Nat} {bs : List Nat} (h : Pks w g A n c bs) (l : Below B w w') (hB : g < B) : Pks w' g A n c bs :=
  ⟨h.pk.elim fun k h => ⟨k, h.1, (l.block g hB).trans h.2⟩, Rd.below h.rd (l.mono (Nat.le_of_lt hB))⟩
theorem Pks.far {w : World} {g : Nat} {A : Option Addr} {n c : Nat} {bs : List Nat} (h : Pks w g A n c bs) {p : Addr} (hp : g < p.block) (v : Value) : Pks (w.setCell p v) g A n c bs :=
  h.below (B := g + 1) ((Below.refl _ _).setCell (show g + 1 ≤ p.block from hp) v) (Nat.lt_succ_self g)
/-- What stays the same of the picks in a walk. -/
structure PkC (n : Nat) (bs : List Nat) : Prop where
  n1000 : n ≤ 1000
  len : bs.length = n
  b256 : ∀ x ∈ bs, x < 256
def NumP (m : Nat) (g : Nat) (A : Option Addr) (n c : Nat) (bs : List Nat) (w : World) (e : Ending) (w' : World) : Prop := ∃ r : Nat, r < m ∧ e = .returned (.int .i64 r) ∧ Pks w' g A n c bs ∧ Far g w w'

set_option maxRecDepth 100000 in
theorem num_any (m : Nat) (g : Nat) (A : Option Addr) (n c : Nat) (bs : List Nat) (w : World) (hm : 1 ≤ m ∧ m ≤ 1000) (hc : PkC n bs) (hp : Pks w g A n c bs) :
    Calls Tryd.prog 9 #[.pointer (some ⟨g, 0, none⟩), .int .i64 m] w (NumP m g A n c bs w) := by
  obtain ⟨k, hk, h⟩ := hp.pk
  have hn := hc.n1000
  have hb := hc.len
  have h256 := hc.b256
  have hr := hp.rd
  have HP := Lib.hid hp
  have c0 := h.cell 0 _ rfl
  have c1 := h.cell 1 _ rfl
  have f1 := h.frozen 1
  by_cases hlt : k < n
  · have h2 := h.set_ 1 (.int .i64 ((k + 1 : Nat) : Int))
    have HH := Lib.hid h
    have HLT := Lib.hid h.lt
    obtain ⟨bb, off, rfl, hbb, hc⟩ := hr.at_ (k := k) (by rw [ints_length]; omega)
    simp only [ints, List.getElem_map] at hc
    have hx := h256 _ (List.getElem_mem (by omega : k < bs.length))
    generalize bs[k] = x at hc hx
    have hne : bb ≠ g := by omega
    have hne2 : g ≠ bb := by omega
    have hm0 : ((m : Int) == 0) = false := by rw [beq_eq_false_iff_ne]; omega
    have hmz : (x : Int) % (m : Int) = ((x % m : Nat) : Int) := by omega
    have hmp : 0 < (m : Int) := by omega
    have hmx : (x : Int).tmod (m : Int) = ((x % m : Nat) : Int) := by rw [Int.tmod_eq_emod_of_nonneg (by omega)]; omega
    have hmd : x % m < m := Nat.mod_lt _ (by omega)
    obtain ⟨y, hy⟩ : ∃ y, x % m = y := ⟨_, rfl⟩
    rw [hy] at hmz hmx hmd
    have hyb : y ≤ 1000 := by omega
    clear h hr h256 hb hy
    go_enter Tryd.func9, Tryd.ntmps9
    go_wp2_with fail
    go_quiet (fail)
    go_wp2_with fail
    obtain ⟨w2, hw2⟩ : ∃ w2, w2 = (w.drewN nq).setCell ⟨g, 1, none⟩ (.int .i64 ((k : Int) + 1)) := ⟨_, rfl⟩
    have B2 : Blk w2 g #[.slice (some ⟨bb, off, none⟩) n c, .int .i64 ((k : Int) + 1)] 51 := by rw [hw2]; exact (Blk.set_ (w := w.drewN nq) HH.out 1 _)
    have F2 : Far g w w2 := by rw [hw2]; exact (Far.of (w := w) (w' := w.drewN nq) HLT.out ((Later.refl w).drewN nq)).trans (Far.set_own (w := w.drewN nq) HLT.out 1 _)
    have hc2 : w2.cell? ⟨bb, off + k, none⟩ = some (.int .u8 (x : Int)) := (Below.cell F2.2.1 hbb).trans hc
    rw [← hw2]
    have e0 : w2.cell? ⟨g, 0, none⟩ = some (.slice (some ⟨bb, off, none⟩) n c) := B2.cell 0 _ rfl
    have e1 : w2.cell? ⟨g, 1, none⟩ = some (.int .i64 ((k : Int) + 1)) := B2.cell 1 _ rfl
    have hkk : (k : Int) + 1 - 1 = (k : Int) := by omega
    have HF2 := Lib.hid F2
    have HB2 := Lib.hid B2
    clear hw2 c0 c1 hc f1 F2 B2
    go_quiet (fail)
    go_wp2_with fail
    go_ret
    refine ⟨y, hmd, by first | (rw [hmz]; rfl) | (rw [hmx]; rfl) | rfl, ⟨⟨k + 1, hlt, ?_⟩, Rd.below HP.out.rd (HF2.out.later ((Later.refl _).drewN _)).2.1⟩, HF2.out.later ((Later.refl _).drewN _)⟩
    unfold Pk
    rw [show ((k + 1 : Nat) : Int) = (k : Int) + 1 by omega]
    exact HB2.out
  · have F := Lib.hid (Far.refl h.lt)
    clear h hr h256 hb
    go_enter Tryd.func9, Tryd.ntmps9
    go_wp2_with fail
    go_quiet (fail)
    go_wp2_with fail
    go_ret
    exact ⟨0, by omega, rfl, HP.out.later ((Later.refl _).drewN _), F.out.later ((Later.refl _).drewN _)⟩
/-- rabbetplay's Value, of the picks so. -/
def ValP (t : Int) (g : Nat) (A : Option Addr) (n c : Nat) (bs : List Nat) (w : World) (e : Ending) (w' : World) : Prop :=
  ∃ (vt i : Int) (s : ByteArray), e = .returned (vagg vt i s) ∧ ((vt = 0 ∧ i = 0 ∧ s = ⟨#[]⟩) ∨ (vt = tyOf t ∧ MayV vt i s.size ∧ In64 i)) ∧ Pks w' g A n c bs ∧ Far g w w' ∧ s.size ≠ 11
theorem valueP (t : Int) (g : Nat) (A : Option Addr) (n c : Nat) (bs : List Nat) (w : World) (hc : PkC n bs) (hp : Pks w g A n c bs) :
    Calls Tryd.prog 21 #[.pointer (some ⟨g, 0, none⟩), .int .i64 t] w (ValP t g A n c bs w) := by
  obtain ⟨k, hk, h⟩ := hp.pk
  refine (value_anyN t g A n c k bs w h hc.n1000 hk hc.len hp.rd hc.b256).mono ?_
  rintro e w' ⟨vt, i, s, k', hk', rfl, hv, ⟨hpk, hf⟩, h11⟩
  exact ⟨vt, i, s, rfl, hv, ⟨⟨k', hk', hpk⟩, Rd.below hp.rd hf.2.1⟩, hf, h11⟩
end Go.Proofs.YtiacemlloaenoaaDoor
