
import Derived.Test.YtkdpjocglfephaaDoorPlayV
import Derived.Test.YtkdpjocglfephaaDoorCell
import Derived.Test.YtkdpjocglfephaaDoorBase
import Derived.WalkKit
import Derived.Laws.OwnMore
import Derived.Laws.BytesArg
import Derived.Laws.Rows
import Derived.Deep.AppendLies
import Derived.Deep.Draws
import Derived.Test.YtkdpjocglfephaaDoorChecked
import Derived.Deep.OwnRows
import Derived.Lib.Hide
import Derived.Deep.Quiet
import Derived.Laws.AppendOwnNone
import Derived.Lib.Strings
import Derived.Outline
import Derived.WalkLawsBesides
import Derived.WalkSpells
import Derived.PlainAid
import Derived.Deep.QuietTactic
import Derived.BigQuiet
import Derived.RegionTactic
import Derived.BigRegion
import Derived.Handy
import Derived.Laws.BitsAllLaws
import Derived.Deep.RegionWith
import Derived.Lib.AppendStr
import Derived.Deep.RegionLaw
import Derived.Maps.AppendAt
import Derived.OpenShut
import Derived.WideShapes
import Derived.ChangeArms
import Derived.Deep.Slices
import Derived.Sort.Grow
import Derived.LaidEql
import Derived.Stop.Asserts
import Derived.RowKitTokens
import Derived.Laws.BitsLemmas
import Derived.Laws.Bits64
import Derived.WalkSmall
import Derived.Stop.IfaceNil
import Derived.Lib.Bytealg
import Derived.Deep.SlicePairs
/- The walk of rabbetplay's Num, of any number; what a world leaves alone but one block. -/


namespace Go.Proofs.YtkdpjocglfephaaDoor
open Go.RowKit
set_option linter.unusedVariables false

theorem Far.below {g : Nat} {w w' w'' : World} (h : Far g w w') (hb : Below w.heap.size w' w'') : Far g w w'' :=
  ⟨h.1, Below.trans h.2.1 (hb.mono (Nat.le_of_lt h.1)), fun j hj hne => (hb.block j hj).trans (h.2.2 j hj hne)⟩
/-- The picks, where they lie, what bytes they are. -/
structure Pks (w : World) (g : Nat) (A : Option Addr) (n c : Nat) (bs : List Nat) : Prop where
  pk : ∃ k, k ≤ n ∧ Pk w g A n c k
  rd : Rd w g A (ints .u8 bs)
theorem Pks.lt {w : World} {g : Nat} {A : Option Addr} {n c : Nat} {bs : List Nat} (h : Pks w g A n c bs) : g < w.heap.size := h.pk.elim fun _ h => h.2.lt
theorem Pks.later {w w' : World} {g : Nat} {A : Option Addr} {n c : Nat} {bs : List Nat} (h : Pks w g A n c bs) (l : Later w w') : Pks w' g A n c bs :=
  ⟨h.pk.elim fun k h => ⟨k, h.1, h.2.later l⟩, Rd.below h.rd (l.below.mono (Nat.le_of_lt h.lt))⟩
theorem Pks.below {w w' : World} {g B : Nat} {A : Option Addr} {n c : Nat} {bs : List Nat} (h : Pks w g A n c bs) (l : Below B w w') (hB : g < B) : Pks w' g A n c bs :=
  ⟨h.pk.elim fun k h => ⟨k, h.1, (l.block g hB).trans h.2⟩, Rd.below h.rd (l.mono (Nat.le_of_lt hB))⟩
theorem Pks.far {w : World} {g : Nat} {A : Option Addr} {n c : Nat} {bs : List Nat} (h : Pks w g A n c bs) {p : Addr} (hp : g < p.block) (v : Value) : Pks (w.setCell p v) g A n c bs :=
  h.below (B := g + 1) ((Below.refl _ _).setCell (show g + 1 ≤ p.block from hp) v) (Nat.lt_succ_self g)
/-- What stays the same of the picks in a walk. -/
structure PkC (n : Nat) (bs : List Nat) : Prop where
  n1000 : n ≤ 1000
  len : bs.length = n
  b256 : ∀ x ∈ bs, x < 256
def NumP (m : Nat) (g : Nat) (A : Option Addr) (n c : Nat) (bs : List Nat) (w : World) (e : Ending) (w' : World) : Prop := ∃ r : Nat, r < m ∧ e = .returned (.int .i64 r) ∧ Pks w' g A n c bs ∧ Far g w w'

set_option maxRecDepth 100000 in
theorem num_any (m : Nat) (g : Nat) (A : Option Addr) (n c : Nat) (bs : List Nat) (w : World) (hm : 1 ≤ m ∧ m ≤ 1000) (hc : PkC n bs) (hp : Pks w g A n c bs) :
    Calls Tryd.prog 22 #[.pointer (some ⟨g, 0, none⟩), .int .i64 m] w (NumP m g A n c bs w) := by
  obtain ⟨k, hk, h⟩ := hp.pk
  have hn := hc.n1000
  have hb := hc.len
  have h256 := hc.b256
  have hr := hp.rd
  have HP := Lib.hid hp
  have c0 := h.cell 0 _ rfl
  have c1 := h.cell 1 _ rfl
  have f1 := h.frozen 1
  by_cases hlt : k < n
  · have h2 := h.set_ 1 (.int .i64 ((k + 1 : Nat) : Int))
    have HH := Lib.hid h
    have HLT := Lib.hid h.lt
    obtain ⟨bb, off, rfl, hbb, hc⟩ := hr.at_ (k := k) (by rw [ints_length]; omega)
    simp only [ints, List.getElem_map] at hc
    have hx := h256 _ (List.getElem_mem (by omega : k < bs.length))
    generalize bs[k] = x at hc hx
    have hne : bb ≠ g := by omega
    have hne2 : g ≠ bb := by omega
    have hm0 : ((m : Int) == 0) = false := by rw [beq_eq_false_iff_ne]; omega
    have hmz : (x : Int) % (m : Int) = ((x % m : Nat) : Int) := by omega
    have hmp : 0 < (m : Int) := by omega
    have hmx : (x : Int).tmod (m : Int) = ((x % m : Nat) : Int) := by rw [Int.tmod_eq_emod_of_nonneg (by omega)]; omega
    have hmd : x % m < m := Nat.mod_lt _ (by omega)
    obtain ⟨y, hy⟩ : ∃ y, x % m = y := ⟨_, rfl⟩
    rw [hy] at hmz hmx hmd
    have hyb : y ≤ 1000 := by omega
    clear h hr h256 hb hy
    go_enter Tryd.func22, Tryd.ntmps22
    go_wp2_with fail
    go_quiet (fail)
    go_wp2_with fail
    obtain ⟨w2, hw2⟩ : ∃ w2, w2 = (w.drewN nq).setCell ⟨g, 1, none⟩ (.int .i64 ((k : Int) + 1)) := ⟨_, rfl⟩
    have B2 : Blk w2 g #[.slice (some ⟨bb, off, none⟩) n c, .int .i64 ((k : Int) + 1)] 76 := by rw [hw2]; exact (Blk.set_ (w := w.drewN nq) HH.out 1 _)
    have F2 : Far g w w2 := by rw [hw2]; exact (Far.of (w := w) (w' := w.drewN nq) HLT.out ((Later.refl w).drewN nq)).trans (Far.set_own (w := w.drewN nq) HLT.out 1 _)
    have hc2 : w2.cell? ⟨bb, off + k, none⟩ = some (.int .u8 (x : Int)) := (Below.cell F2.2.1 hbb).trans hc
    rw [← hw2]
    have e0 : w2.cell? ⟨g, 0, none⟩ = some (.slice (some ⟨bb, off, none⟩) n c) := B2.cell 0 _ rfl
    have e1 : w2.cell? ⟨g, 1, none⟩ = some (.int .i64 ((k : Int) + 1)) := B2.cell 1 _ rfl
    have hkk : (k : Int) + 1 - 1 = (k : Int) := by omega
    have HF2 := Lib.hid F2
    have HB2 := Lib.hid B2
    clear hw2 c0 c1 hc f1 F2 B2
    go_quiet (fail)
    go_wp2_with fail
    go_ret
    refine ⟨y, hmd, by first | (rw [hmz]; rfl) | (rw [hmx]; rfl) | rfl, ⟨⟨k + 1, hlt, ?_⟩, Rd.below HP.out.rd (HF2.out.later ((Later.refl _).drewN _)).2.1⟩, HF2.out.later ((Later.refl _).drewN _)⟩
    unfold Pk
    rw [show ((k + 1 : Nat) : Int) = (k : Int) + 1 by omega]
    exact HB2.out
  · have F := Lib.hid (Far.refl h.lt)
    clear h hr h256 hb
    go_enter Tryd.func22, Tryd.ntmps22
    go_wp2_with fail
    go_quiet (fail)
    go_wp2_with fail
    go_ret
    exact ⟨0, by omega, rfl, HP.out.later ((Later.refl _).drewN _), F.out.later ((Later.refl _).drewN _)⟩
/-- rabbetplay's Value, of the picks so. -/
def ValP (t : Int) (g : Nat) (A : Option Addr) (n c : Nat) (bs : List Nat) (w : World) (e : Ending) (w' : World) : Prop :=
  ∃ (vt i : Int) (s : ByteArray), e = .returned (vagg vt i s) ∧ ((vt = 0 ∧ i = 0 ∧ s = ⟨#[]⟩) ∨ (vt = tyOf t ∧ MayV vt i s.size ∧ In64 i)) ∧ Pks w' g A n c bs ∧ Far g w w' ∧ s.size ≠ 11
theorem valueP (t : Int) (g : Nat) (A : Option Addr) (n c : Nat) (bs : List Nat) (w : World) (hc : PkC n bs) (hp : Pks w g A n c bs) :
    Calls Tryd.prog 25 #[.pointer (some ⟨g, 0, none⟩), .int .i64 t] w (ValP t g A n c bs w) := by
  obtain ⟨k, hk, h⟩ := hp.pk
  refine (value_anyN t g A n c k bs w h hc.n1000 hk hc.len hp.rd hc.b256).mono ?_
  rintro e w' ⟨vt, i, s, k', hk', rfl, hv, ⟨hpk, hf⟩, h11⟩
  exact ⟨vt, i, s, rfl, hv, ⟨⟨k', hk', hpk⟩, Rd.below hp.rd hf.2.1⟩, hf, h11⟩
end Go.Proofs.YtkdpjocglfephaaDoor

/- The walk of rabbetplay's Row. -/

namespace Go.Proofs.YtkdpjocglfephaaDoor
open Go.RowKit
set_option linter.unusedVariables false

theorem HasX.far {W W' : World} {g : Nat} {A : Option Addr} {xs : List Value} (h : HasX (some g) W A xs) (hf : Far g W W') : HasX (some g) W' A xs := by
  rcases h with h | ⟨b, off, hA, hb, hne, hc⟩
  · exact .inl h
  · exact .inr ⟨b, off, hA, Nat.lt_of_lt_of_le hb hf.size, hne, fun k v hv => by rw [cell_block (hf.2.2 b hb (fun e => hne (by rw [e])))]; exact hc k v hv⟩
/-- A value, as Value makes it, of a type. -/
def FitV (t : Int) (v : Val3) : Prop := (v = (0, 0, ⟨#[]⟩) ∨ (v.1 = tyOf t ∧ MayV v.1 v.2.1 v.2.2.size ∧ In64 v.2.1)) ∧ v.2.2.size ≠ 11
/-- .. a row, as Row makes it. -/
def FitR (xs : List Col3) (row : List Val3) : Prop := ∀ (i : Nat) (x : Col3) (v : Val3), xs[i]? = some x → row[i]? = some v → FitV x.2.2 v
theorem FitR.nil (xs : List Col3) : FitR xs [] := fun _ _ _ _ h => by simp at h
theorem FitR.snoc {xs : List Col3} {row : List Val3} (h : FitR xs row) {x : Col3} {v : Val3} (hx : xs[row.length]? = some x) (hv : FitV x.2.2 v) : FitR xs (row ++ [v]) := by
  intro i y u hy hu
  rcases Nat.lt_trichotomy i row.length with hi | rfl | hi
  · rw [List.getElem?_append_left hi] at hu; exact h i y u hy hu
  · rw [List.getElem?_append_right (Nat.le_refl _), Nat.sub_self] at hu
    rw [hx] at hy
    injection hy with hy; injection hu with hu
    subst hy hu; exact hv
  · rw [List.getElem?_eq_none (by rw [List.length_append, List.length_singleton]; omega)] at hu; cases hu
def RowP (xs : List Col3) (g : Nat) (A : Option Addr) (n c : Nat) (bs : List Nat) (w : World) (e : Ending) (w' : World) : Prop :=
  ∃ (row : List Val3) (R : Option Addr) (rc : Nat), e = .returned (.slice R row.length rc) ∧ row.length = xs.length ∧ FitR xs row ∧ w'.ownsRow w.heap.size 26 3 (.slice R row.length rc) row.length (fl row) ∧ (R = none → rc = 0) ∧ Pks w' g A n c bs ∧ Far g w w'
/-- Where Row's loop stands. -/
def RwJ (xs : List Col3) (g : Nat) (A : Option Addr) (n c : Nat) (bs : List Nat) (V : Option Addr) (vc : Nat) (last : Int) (w : World) (rv iv : Value) (wr : World) : Prop :=
  ∃ (row : List Val3) (R : Option Addr) (rc k : Nat), rv = .slice R k rc ∧ iv = .int .i64 k ∧ row.length = k ∧ k ≤ xs.length ∧ FitR xs row ∧ wr.ownsRow (w.heap.size + 1) 26 3 (.slice R k rc) k (fl row) ∧ (R = none → rc = 0) ∧ Pks wr g A n c bs ∧ Far g w wr ∧ Blk wr w.heap.size #[.slice V xs.length vc, .int .i64 last] 33
theorem RwJ.mk {xs : List Col3} {g : Nat} {A : Option Addr} {n c : Nat} {bs : List Nat} {V : Option Addr} {vc : Nat} {last : Int} {w wr : World} (y : Int) (row : List Val3) (R : Option Addr) (m rc k : Nat) (hm : m = k) (hy : y = (k : Int)) (hk : row.length = k) (hkx : k ≤ xs.length) (hf : FitR xs row) (ho : wr.ownsRow (w.heap.size + 1) 26 3 (.slice R m rc) m (fl row)) (hn : R = none → rc = 0)
    (hp : Pks wr g A n c bs) (hF : Far g w wr) (hB : Blk wr w.heap.size #[.slice V xs.length vc, .int .i64 last] 33) : RwJ xs g A n c bs V vc last w (.slice R m rc) (.int .i64 y) wr := by
  subst hy hm; exact ⟨row, R, rc, m, rfl, rfl, hk, hkx, hf, ho, hn, hp, hF, hB⟩

set_option maxRecDepth 100000 in
set_option maxHeartbeats 4000000 in
theorem row_any (g : Nat) (A : Option Addr) (n c : Nat) (bs : List Nat) (V : Option Addr) (vn vc : Nat) (last : Int) (xs : List Col3) (w : World) (hc : PkC n bs) (hp : Pks w g A n c bs) (hvn : vn = xs.length) (hl : vn ≤ 1000) (hV : HasX (some g) w V (fc xs)) :
    Calls Tryd.prog 44 #[.pointer (some ⟨g, 0, none⟩), .agg #[.slice V vn vc, .int .i64 last]] w (RowP xs g A n c bs w) := by
  obtain ⟨h0, hh0⟩ : ∃ x, w.heap.size = x := ⟨_, rfl⟩
  obtain ⟨w1, hw1⟩ : ∃ x : World, w.alloc (.cells #[.slice V vn vc, .int .i64 last] 33) = x := ⟨_, rfl⟩
  have l1 : Later w w1 := hw1 ▸ Later.new w _
  have HI0 := Lib.hid (RwJ.mk (xs := xs) (g := g) (A := A) (n := n) (c := c) (bs := bs) (V := V) (vc := vc) (last := last) (w := w) (wr := w1) 0 [] none 0 0 0 rfl rfl rfl (Nat.zero_le _) (FitR.nil _) (ownG_nil _ _ _ _) (fun _ => rfl) (hp.later l1) (Far.of hp.lt l1) (hvn ▸ hw1 ▸ Blk.new _ _ _ _ rfl))
  have HV := Lib.hid hV
  have HVN := Lib.hid hvn
  have HG := Lib.hid hp.lt
  have HS1 := Lib.hid (show w1.heap.size = h0 + 1 by rw [← hw1, ← hh0]; simp)
  clear l1 hp hV hvn
  go_enter Tryd.func44, Tryd.ntmps44
  go_wp2_with fail
  clear hw1
  go_loopw [5, 6] (fun rv iv wr => RwJ xs g A n c bs V vc last w rv iv wr) (fun _ i _ => vn - (intOf i).toNat)
  case atStart => exact HI0.out
  case round =>
    obtain ⟨row, R, rc, k, rfl, rfl, hrow, hkx, hfit, hown, hnil, hpk, hfar, hblk⟩ := hrel
    have HFIT := Lib.hid hfit
    have HNIL := Lib.hid hnil
    have HBLK := Lib.hid hblk
    have HFAR := Lib.hid hfar
    have HROW := Lib.hid hrow
    have HOWN := Lib.hid hown
    rw [← HVN.out, hh0] at hblk
    have c0 := hblk.cell 0 _ rfl
    clear HI0 hfit hnil hfar hblk hrow hown
    by_cases hlt : k < vn
    · have hkl : (k : Int) < (vn : Int) := by omega
      have hkxs : k < xs.length := by have := HVN.out; omega
      obtain ⟨b, off, hA, v0, v1, v2⟩ := (HV.out.far HFAR.out).has.col3 k hkxs
      subst hA
      have HX := Lib.hid (show xs[row.length]? = some xs[k] by rw [HROW.out]; exact List.getElem?_eq_getElem hkxs)
      generalize xs[k] = x at v0 v1 v2 HX
      obtain ⟨xi, xn, xt⟩ := x
      dsimp only at v0 v1 v2
      go_wp2_with fail
      refine (valueP xt g A n c bs wr hc hpk).mono ?_
      rintro e wn ⟨vt, i, s, rfl, hv, hp2, hf2, h11⟩
      have HFITV := Lib.hid (show FitV xt (vt, i, s) from ⟨hv.imp (fun h => by obtain ⟨rfl, rfl, rfl⟩ := h; rfl) id, h11⟩)
      clear h11
      have HP2 := Lib.hid hp2
      have HF2 := Lib.hid (HFAR.out.trans hf2)
      have HB2 := Lib.hid (hf2.blk HBLK.out (by have := HG.out; omega))
      have HOA := Lib.hid (fun (o : Obj) => own_later (hf2.own (by have := HG.out; omega) HOWN.out) (Later.new wn o))
      have HBK := Lib.hid (fun (wz : World) => Blk.new wz #[.int .i64 vt, .int .i64 i, .string s] 26 wz.heap.size rfl)
      have HSZ := Lib.hid (show w.heap.size + 1 ≤ wn.heap.size from HB2.out.lt)
      clear hv hp2 hf2 c0 v0 v1 v2 hpk
      go_wp2_with (at_builtin; refine wpList_append_g _ rfl (.tmp 14) (.tmp 23) 56 rfl (w.heap.size + 1) 26 _ 3 32 Tryd.underlying56 info_v rfl (by decide) _ k _ rfl (HOA.out _) _ 1 1 (fl [(vt, i, s)]) rfl (HBK.out wn).has rfl (by intro h; cases h) (fl_one _) (by unfold maxLen; omega) (by omega) (by have := HSZ.out; simp; omega) ?_; rintro A' c' wq hO _ hbel hn2; have HO2 := Lib.hid hO; have HN2 := Lib.hid hn2; have HL2 := Lib.hid (((Later.new wn _).below.mono HSZ.out).trans hbel); clear hO hn2 hbel)
      go_roundw
      all_goals first
        | exact RwJ.mk _ (row ++ [(vt, i, s)]) _ _ _ (k + 1) (by omega) (by omega) (by rw [List.length_append, HROW.out]; rfl) (by omega) (FitR.snoc HFIT.out HX.out HFITV.out) (by rw [fl_append]; exact HO2.out) HN2.out (HP2.out.below HL2.out (by have := HG.out; omega)) (HF2.out.below (HL2.out.mono (by omega))) ((HL2.out.block _ (Nat.lt_succ_self _)).trans HB2.out)
        | (simp [intOf]; done)
        | (simp [intOf]; omega)
    · have hkn : k = xs.length := by have := HVN.out; omega
      have HKN := Lib.hid hkn
      clear hkn
      go_wp2_with fail
      go_ret
      have hr := HROW.out
      have hk := HKN.out
      subst hr
      refine ⟨row, R, rc, rfl, hk, HFIT.out, ?_, HNIL.out, hpk, HFAR.out⟩
      obtain ⟨p1, p2⟩ := HOWN.out
      refine ⟨p1, ?_⟩
      rcases p2 with p2 | ⟨q, cap, cur, ha, hb, hrest⟩
      · exact .inl p2
      · exact .inr ⟨q, cap, cur, ha, by omega, hrest⟩
end Go.Proofs.YtkdpjocglfephaaDoor

/- The walk of rabbetplay's Rows. -/

namespace Go.Proofs.YtkdpjocglfephaaDoor
open Go.RowKit
set_option linter.unusedVariables false

/-- A slice of values that lies above all that was there. -/
def SlV.above (base : Nat) (s : SlV) : Prop := ∀ b off, s.a = some ⟨b, off, none⟩ → base ≤ b
theorem RowsOn.far {base : Nat} {g : Nat} {w w' : World} {A : Option Addr} {n c : Nat} {ss : List SlV} (h : RowsOn base w A n c ss) (hf : Far g w w') (hb : g < base) (ha : ∀ s ∈ ss, s.above (g + 1)) : RowsOn base w' A n c ss := by
  refine ⟨h.1, hf.own hb h.2.1, fun s hs => ⟨?_, (h.2.2.1 s hs).2⟩, h.2.2.2⟩
  rcases (h.2.2.1 s hs).1 with hx | ⟨b, off, hA, hlt, hne, hc⟩
  · exact .inl hx
  · exact .inr ⟨b, off, hA, Nat.lt_of_lt_of_le hlt hf.size, hne, fun k v hv => by rw [cell_block (hf.2.2 b hlt (by have := ha s hs b off hA; omega))]; exact hc k v hv⟩
theorem own_at2 {w : World} {base : Nat} {e : TypeId} {k : Nat} {v : Value} {n : Nat} {xs : List Value} (h : w.ownsRow base e k v n xs) {q : Nat} (hq : v.ownBlock = some q) : base ≤ q ∧ q < w.heap.size := h.lt q hq
/-- Rows, as Row makes them. -/
def FitRs (xs : List Col3) (base : Nat) (ss : List SlV) : Prop := ∀ s ∈ ss, s.above base ∧ s.l.length = xs.length ∧ FitR xs s.l
def MadeRows (xs : List Col3) (N : Nat) (g : Nat) (A : Option Addr) (n c : Nat) (bs : List Nat) (w : World) (e : Ending) (w' : World) : Prop :=
  ∃ (ss : List SlV) (L : Option Addr) (lc : Nat), e = .returned (.slice L N lc) ∧ ss.length = N ∧ RowsOn w.heap.size w' L N lc ss ∧ FitRs xs w.heap.size ss ∧ Pks w' g A n c bs ∧ Far g w w'
/-- Where Rows' loop stands. -/
def RoJ (xs : List Col3) (N : Nat) (g : Nat) (A : Option Addr) (n c : Nat) (bs : List Nat) (V : Option Addr) (vc : Nat) (last : Int) (w : World) (lv iv : Value) (wr : World) : Prop :=
  ∃ (ss : List SlV) (L : Option Addr) (lc k : Nat), lv = .slice L k lc ∧ iv = .int .i64 k ∧ ss.length = k ∧ k ≤ N ∧ RowsOn (w.heap.size + 1) wr L k lc ss ∧ FitRs xs (w.heap.size + 1) ss ∧ Pks wr g A n c bs ∧ Far g w wr ∧ Blk wr w.heap.size #[.slice V xs.length vc, .int .i64 last] 33
theorem RoJ.mk {xs : List Col3} {N g : Nat} {A : Option Addr} {n c : Nat} {bs : List Nat} {V : Option Addr} {vc : Nat} {last : Int} {w wr : World} (y : Int) (ss : List SlV) (L : Option Addr) (m lc k : Nat) (hm : m = k) (hy : y = (k : Int)) (hk : ss.length = k) (hkN : k ≤ N) (ho : RowsOn (w.heap.size + 1) wr L m lc ss) (hf : FitRs xs (w.heap.size + 1) ss)
    (hp : Pks wr g A n c bs) (hF : Far g w wr) (hB : Blk wr w.heap.size #[.slice V xs.length vc, .int .i64 last] 33) : RoJ xs N g A n c bs V vc last w (.slice L m lc) (.int .i64 y) wr := by
  subst hy hm; exact ⟨ss, L, lc, m, rfl, rfl, hk, hkN, ho, hf, hp, hF, hB⟩

set_option maxRecDepth 100000 in
set_option maxHeartbeats 4000000 in
theorem rows_any (N : Nat) (g : Nat) (A : Option Addr) (n c : Nat) (bs : List Nat) (V : Option Addr) (vn vc : Nat) (last : Int) (xs : List Col3) (w : World) (hc : PkC n bs) (hp : Pks w g A n c bs) (hvn : vn = xs.length) (hl : vn ≤ 1000) (hN : N ≤ 1000) (hV : HasX (some g) w V (fc xs)) :
    Calls Tryd.prog 24 #[.pointer (some ⟨g, 0, none⟩), .agg #[.slice V vn vc, .int .i64 last], .int .i64 N] w (MadeRows xs N g A n c bs w) := by
  obtain ⟨h0, hh0⟩ : ∃ x, w.heap.size = x := ⟨_, rfl⟩
  obtain ⟨w1, hw1⟩ : ∃ x : World, w.alloc (.cells #[.slice V vn vc, .int .i64 last] 33) = x := ⟨_, rfl⟩
  have l1 : Later w w1 := hw1 ▸ Later.new w _
  have HI0 := Lib.hid (RoJ.mk (xs := xs) (N := N) (g := g) (A := A) (n := n) (c := c) (bs := bs) (V := V) (vc := vc) (last := last) (w := w) (wr := w1) 0 [] none 0 0 0 rfl rfl rfl (Nat.zero_le _) (RowsOn.nil_ _ _) (fun s hs => by cases hs) (hp.later l1) (Far.of hp.lt l1) (hvn ▸ hw1 ▸ Blk.new _ _ _ _ rfl))
  have HV := Lib.hid hV
  have HVN := Lib.hid hvn
  have HG := Lib.hid hp.lt
  have HS1 := Lib.hid (show w1.heap.size = h0 + 1 by rw [← hw1, ← hh0]; simp)
  clear l1 hp hV hvn
  go_enter Tryd.func24, Tryd.ntmps24
  go_wp2_with fail
  clear hw1
  go_loopw [7, 8] (fun lv iv wr => RoJ xs N g A n c bs V vc last w lv iv wr) (fun _ i _ => N - (intOf i).toNat)
  case atStart => exact HI0.out
  case round =>
    obtain ⟨ss, L, lc, k, rfl, rfl, hss, hkN, hon, hfit, hpk, hfar, hblk⟩ := hrel
    have HFIT := Lib.hid hfit
    have HBLK := Lib.hid hblk
    have HFAR := Lib.hid hfar
    have HSS := Lib.hid hss
    have HON := Lib.hid hon
    rw [← HVN.out, hh0] at hblk
    have c0 := hblk.cell 0 _ rfl
    have c1 := hblk.cell 1 _ rfl
    clear HI0 hfit hfar hblk hss hon
    by_cases hlt : k < N
    · have hkl : (k : Int) < (N : Int) := by omega
      have HRW := Lib.hid (row_any g A n c bs V vn vc last xs wr hc hpk HVN.out hl (HV.out.far HFAR.out))
      clear hpk
      go_wp2_with fail
      refine HRW.out.mono ?_
      rintro e wn ⟨row, R, rc, rfl, hrl, hfr, ho, hrn, hp2, hf2⟩
      have HP2 := Lib.hid hp2
      have HF2 := Lib.hid (HFAR.out.trans hf2)
      have HB2 := Lib.hid (hf2.blk HBLK.out (by have := HG.out; omega))
      have HABV := Lib.hid (fun s hs b off e => by have := (HFIT.out s hs).1 b off e; have := HG.out; omega : ∀ s ∈ ss, s.above (g + 1))
      have hon2 := HON.out.far hf2 (by have := HG.out; omega) HABV.out
      have HOKR := Lib.hid (show (⟨R, rc, row⟩ : SlV).okX (Value.slice L k lc).ownBlock wn from SlV.okX.own ho rfl hrn fun q hq => (HON.out.2.1.lt q hq).2)
      have HFR := Lib.hid (show SlV.above (w.heap.size + 1) ⟨R, rc, row⟩ ∧ row.length = xs.length ∧ FitR xs row from ⟨fun b off e => by
        have e : R = some ⟨b, off, none⟩ := e
        rw [e] at ho
        have := (own_at2 (q := b) ho rfl).1
        have := HFAR.out.size
        have := HBLK.out.lt
        omega, hrl, hfr⟩)
      have HOA := Lib.hid (fun (o : Obj) => hon2.later (Later.new wn o))
      have HOKA := Lib.hid (fun (o : Obj) => HOKR.out.later (Later.new wn o))
      have HSZ := Lib.hid (show w.heap.size + 1 ≤ wn.heap.size from HB2.out.lt)
      obtain ⟨rn, hrnn⟩ : ∃ x, row.length = x := ⟨_, rfl⟩
      have HRL := Lib.hid (show (⟨R, rc, row⟩ : SlV).v = .slice R rn rc by rw [SlV.v_eq, ← hrnn])
      have HBK := Lib.hid (fun (wz : World) => Blk.new wz #[.slice R rn rc] 56 wz.heap.size rfl)
      rw [hrnn]
      clear hp2 hf2 c0 c1 hon2 hrl hfr ho hrn HRW hrnn
      go_wp2_with (at_builtin; refine wpList_append_x _ rfl (.tmp 14) (.tmp 18) 67 rfl (w.heap.size + 1) 56 _ 1 24 Tryd.underlying67 info_row rfl (by decide) _ k _ rfl (HOA.out _).2.1 _ 0 1 1 [.slice R rn rc] rfl (HBK.out wn).has rfl (by intro u hu; rw [List.mem_singleton] at hu; subst hu; rfl) (by unfold maxLen; omega) (by omega) (by have := HSZ.out; simp; omega) ?_; rintro A' c' wq hO hgr hbel hat hn2; have HO2 := Lib.hid (RowsOn.more (s := ⟨R, rc, row⟩) (HOA.out _) (HOKA.out _) (by rw [HRL.out]; exact hO) hgr hat hn2); have HL2 := Lib.hid (((Later.new wn _).below.mono HSZ.out).trans hbel); clear hO hn2 hbel hgr hat)
      go_roundw
      all_goals first
        | exact RoJ.mk _ (ss ++ [⟨R, rc, row⟩]) _ _ _ (k + 1) (by omega) (by omega) (by rw [List.length_append, HSS.out]; rfl) (by omega) HO2.out (by intro s hs; rcases List.mem_append.1 hs with h | h; exact HFIT.out s h; rw [List.mem_singleton] at h; subst h; exact HFR.out) (HP2.out.below HL2.out (by have := HG.out; omega)) (HF2.out.below (HL2.out.mono (by omega))) ((HL2.out.block _ (Nat.lt_succ_self _)).trans HB2.out)
        | (simp [intOf]; done)
        | (simp [intOf]; omega)
    · have hkn : k = N := by omega
      have HKN := Lib.hid hkn
      clear hkn
      go_wp2_with fail
      go_ret
      have hk := HKN.out
      subst hk
      obtain ⟨o1, o2, o3, o4⟩ := HON.out
      refine ⟨ss, L, lc, rfl, HSS.out, ⟨o1, ?_, o3, o4⟩, fun s hs => ⟨fun b off e => by have := (HFIT.out s hs).1 b off e; omega, (HFIT.out s hs).2⟩, hpk, HFAR.out⟩
      obtain ⟨p1, p2⟩ := o2
      refine ⟨p1, ?_⟩
      rcases p2 with p2 | ⟨q, cap, cur, ha, hb, hrest⟩
      · exact .inl p2
      · exact .inr ⟨q, cap, cur, ha, by omega, hrest⟩
end Go.Proofs.YtkdpjocglfephaaDoor
