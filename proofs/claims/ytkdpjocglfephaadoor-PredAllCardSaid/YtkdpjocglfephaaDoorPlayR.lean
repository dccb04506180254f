
import Derived.Test.YtkdpjocglfephaaDoorPlayN
import Derived.Test.YtkdpjocglfephaaDoorBase
import Derived.Test.YtkdpjocglfephaaDoorPlayV
import Derived.WalkKit
import Derived.Laws.OwnMore
import Derived.Laws.BytesArg
import Derived.Laws.Rows
import Derived.Deep.AppendLies
import Derived.Deep.Draws
import Derived.Test.YtkdpjocglfephaaDoorChecked
import Derived.Deep.OwnRows
import Derived.Lib.Hide
import Derived.Deep.Quiet
import Derived.Laws.AppendOwnNone
import Derived.Lib.Strings
import Derived.Outline
import Derived.WalkLawsBesides
import Derived.WalkSpells
import Derived.PlainAid
import Derived.Deep.QuietTactic
import Derived.BigQuiet
import Derived.RegionTactic
import Derived.BigRegion
import Derived.Handy
import Derived.Laws.BitsAllLaws
import Derived.Deep.RegionWith
import Derived.Lib.AppendStr
import Derived.Deep.RegionLaw
import Derived.Maps.AppendAt
import Derived.OpenShut
import Derived.WideShapes
import Derived.ChangeArms
import Derived.Deep.Slices
import Derived.Sort.Grow
import Derived.LaidEql
import Derived.Stop.Asserts
import Derived.RowKitTokens
import Derived.Laws.BitsLemmas
import Derived.Laws.Bits64
import Derived.WalkSmall
import Derived.Stop.IfaceNil
import Derived.Lib.Bytealg
import Derived.Deep.SlicePairs
/- The walk of rabbetplay's Row. -/

namespace Go.Proofs.YtkdpjocglfephaaDoor
open Go.RowKit
set_option linter.unusedVariables false

theorem HasX.far {W W' : World} {g : Nat} {A : Option Addr} {xs : List Value} (h : HasX (some g) W A xs) (hf : Far g W W') : HasX (some g) W' A xs := by
  rcases h with h | ⟨b, off, hA, hb, hne, hc⟩
  · exact .inl h
  · exact .inr ⟨b, off, hA, Nat.lt_of_lt_of_le hb hf.size, hne, fun k v hv => by rw [cell_block (hf.2.2 b hb (fun e => hne (by rw [e])))]; exact hc k v hv⟩
/-- A value, as Value makes it, of a type. -/
def FitV (t : Int) (v : Val3) : Prop := (v = (0, 0, ⟨#[]⟩) ∨ (v.1 = tyOf t ∧ MayV v.1 v.2.1 v.2.2.size ∧ In64 v.2.1)) ∧ v.2.2.size ≠ 11
/-- .. a row, as Row makes it. -/
def FitR (xs : List Col3) (row : List Val3) : Prop := ∀ (i : Nat) (x : Col3) (v : Val3), xs[i]? = some x → row[i]? = some v → FitV x.2.2 v
theorem FitR.nil (xs : List Col3) : FitR xs [] := fun _ _ _ _ h => by simp at h
theorem FitR.snoc {xs : List Col3} {row : List Val3} (h : FitR xs row) {x : Col3} {v : Val3} (hx : xs[row.length]? = some x) (hv : FitV x.2.2 v) : FitR xs (row ++ [v]) := by
  intro i y u hy hu
  rcases Nat.lt_trichotomy i row.length with hi | rfl | hi
  · rw [List.getElem?_append_left hi] at hu; exact h i y u hy hu
  · rw [List.getElem?_append_right (Nat.le_refl _), Nat.sub_self] at hu
    rw [hx] at hy
    injection hy with hy; injection hu with hu
    subst hy hu; exact hv
  · rw [List.getElem?_eq_none (by rw [List.length_append, List.length_singleton]; omega)] at hu; cases hu
def RowP (xs : List Col3) (g : Nat) (A : Option Addr) (n c : Nat) (bs : List Nat) (w : World) (e : Ending) (w' : World) : Prop :=
  ∃ (row : List Val3) (R : Option Addr) (rc : Nat), e = .returned (.slice R row.length rc) ∧ row.length = xs.length ∧ FitR xs row ∧ w'.ownsRow w.heap.size 26 3 (.slice R row.length rc) row.length (fl row) ∧ (R = none → rc = 0) ∧ Pks w' g A n c bs ∧ Far g w w'
/-- Where Row's loop stands. -/
def RwJ (xs : List Col3) (g : Nat) (A : Option Addr) (n c : Nat) (bs : List Nat) (V : Option Addr) (vc : Nat) (last : Int) (w : World) (rv iv : Value) (wr : World) : Prop :=
  ∃ (row : List Val3) (R : Option Addr) (rc k : Nat), rv = .slice R k rc ∧ iv = .int .i64 k ∧ row.length = k ∧ k ≤ xs.length ∧ FitR xs row ∧ wr.ownsRow (w.heap.size + 1) 26 3 (.slice R k rc) k (fl row) ∧ (R = none → rc = 0) ∧ Pks wr g A n c bs ∧ Far g w wr ∧ Blk wr w.heap.size #[.slice V xs.length vc, .int .i64 last] 33
theorem RwJ.mk {xs : List Col3} {g : Nat} {A : Option Addr} {n c : Nat} {bs : List Nat} {V : Option Addr} {vc : Nat} {last : Int} {w wr : World} (y : Int) (row : List Val3) (R : Option Addr) (m rc k : Nat) (hm : m = k) (hy : y = (k : Int)) (hk : row.length = k) (hkx : k ≤ xs.length) (hf : FitR xs row) (ho : wr.ownsRow (w.heap.size + 1) 26 3 (.slice R m rc) m (fl row)) (hn : R = none → rc = 0)
    (hp : Pks wr g A n c bs) (hF : Far g w wr) (hB : Blk wr w.heap.size #[.slice V xs.length vc, .int .i64 last] 33) : RwJ xs g A n c bs V vc last w (.slice R m rc) (.int .i64 y) wr := by
  subst hy hm; exact ⟨row, R, rc, m, rfl, rfl, hk, hkx, hf, ho, hn, hp, hF, hB⟩

set_option maxRecDepth 100000 in
set_option maxHeartbeats 4000000 in
theorem row_any (g : Nat) (A : Option Addr) (n c : Nat) (bs : List Nat) (V : Option Addr) (vn vc : Nat) (last : Int) (xs : List Col3) (w : World) (hc : PkC n bs) (hp : Pks w g A n c bs) (hvn : vn = xs.length) (hl : vn ≤ 1000) (hV : HasX (some g) w V (fc xs)) :
    Calls Tryd.prog 44 #[.pointer (some ⟨g, 0, none⟩), .agg #[.slice V vn vc, .int .i64 last]] w (RowP xs g A n c bs w) := by
  obtain ⟨h0, hh0⟩ : ∃ x, w.heap.size = x := ⟨_, rfl⟩
  obtain ⟨w1, hw1⟩ : ∃ x : World, w.alloc (.cells #[.slice V vn vc, .int .i64 last] 33) = x := ⟨_, rfl⟩
  have l1 : Later w w1 := hw1 ▸ Later.new w _
  have HI0 := Lib.hid (RwJ.mk (xs := xs) (g := g) (A := A) (n := n) (c := c) (bs := bs) (V := V) (vc := vc) (last := last) (w := w) (wr := w1) 0 [] none 0 0 0 rfl rfl rfl (Nat.zero_le _) (FitR.nil _) (ownG_nil _ _ _ _) (fun _ => rfl) (hp.later l1) (Far.of hp.lt l1) (hvn ▸ hw1 ▸ Blk.new _ _ _ _ rfl))
  have HV := Lib.hid hV
  have HVN := Lib.hid hvn
  have HG := Lib.hid hp.lt
  have HS1 := Lib.hid (show w1.heap.size = h0 + 1 by rw [← hw1, ← hh0]; simp)
  clear l1 hp hV hvn
  go_enter Tryd.func44, Tryd.ntmps44
  go_wp2_with fail
  clear hw1
  go_loopw [5, 6] (fun rv iv wr => RwJ xs g A n c bs V vc last w rv iv wr) (fun _ i _ => vn - (intOf i).toNat)
  case atStart => exact HI0.out
  case round =>
    obtain ⟨row, R, rc, k, rfl, rfl, hrow, hkx, hfit, hown, hnil, hpk, hfar, hblk⟩ := hrel
    have HFIT := Lib.hid hfit
    have HNIL := Lib.hid hnil
    have HBLK := Lib.hid hblk
    have HFAR := Lib.hid hfar
    have HROW := Lib.hid hrow
    have HOWN := Lib.hid hown
    rw [← HVN.out, hh0] at hblk
    have c0 := hblk.cell 0 _ rfl
    clear HI0 hfit hnil hfar hblk hrow hown
    by_cases hlt : k < vn
    · have hkl : (k : Int) < (vn : Int) := by omega
      have hkxs : k < xs.length := by have := HVN.out; omega
      obtain ⟨b, off, hA, v0, v1, v2⟩ := (HV.out.far HFAR.out).has.col3 k hkxs
      subst hA
      have HX := Lib.hid (show xs[row.length]? = some xs[k] by rw [HROW.out]; exact List.getElem?_eq_getElem hkxs)
      generalize xs[k] = x at v0 v1 v2 HX
      obtain ⟨xi, xn, xt⟩ := x
      dsimp only at v0 v1 v2
      go_wp2_with fail
      refine (valueP xt g A n c bs wr hc hpk).mono ?_
      rintro e wn ⟨vt, i, s, rfl, hv, hp2, hf2, h11⟩
      have HFITV := Lib.hid (show FitV xt (vt, i, s) from ⟨hv.imp (fun h => by obtain ⟨rfl, rfl, rfl⟩ := h; rfl) id, h11⟩)
      clear h11
      have HP2 := Lib.hid hp2
      have HF2 := Lib.hid (HFAR.out.trans hf2)
      have HB2 := Lib.hid (hf2.blk HBLK.out (by have := HG.out; omega))
      have HOA := Lib.hid (fun (o : Obj) => own_later (hf2.own (by have := HG.out; omega) HOWN.out) (Later.new wn o))
      have HBK := Lib.hid (fun (wz : World) => Blk.new wz #[.int .i64 vt, .int .i64 i, .string s] 26 wz.heap.size rfl)
      have HSZ := Lib.hid (show w.heap.size + 1 ≤ wn.heap.size from HB2.out.lt)
      clear hv hp2 hf2 c0 v0 v1 v2 hpk
      go_wp2_with (at_builtin; refine wpList_append_g _ rfl (.tmp 14) (.tmp 23) 56 rfl (w.heap.size + 1) 26 _ 3 32 Tryd.underlying56 info_v rfl (by decide) _ k _ rfl (HOA.out _) _ 1 1 (fl [(vt, i, s)]) rfl (HBK.out wn).has rfl (by intro h; cases h) (fl_one _) (by unfold maxLen; omega) (by omega) (by have := HSZ.out; simp; omega) ?_; rintro A' c' wq hO _ hbel hn2; have HO2 := Lib.hid hO; have HN2 := Lib.hid hn2; have HL2 := Lib.hid (((Later.new wn _).below.mono HSZ.out).trans hbel); clear hO hn2 hbel)
      go_roundw
      all_goals first
        | exact RwJ.mk _ (row ++ [(vt, i, s)]) _ _ _ (k + 1) (by omega) (by omega) (by rw [List.length_append, HROW.out]; rfl) (by omega) (FitR.snoc HFIT.out HX.out HFITV.out) (by rw [fl_append]; exact HO2.out) HN2.out (HP2.out.below HL2.out (by have := HG.out; omega)) (HF2.out.below (HL2.out.mono (by omega))) ((HL2.out.block _ (Nat.lt_succ_self _)).trans HB2.out)
        | (simp [intOf]; done)
        | (simp [intOf]; omega)
    · have hkn : k = xs.length := by have := HVN.out; omega
      have HKN := Lib.hid hkn
      clear hkn
      go_wp2_with fail
      go_ret
      have hr := HROW.out
      have hk := HKN.out
      subst hr
      refine ⟨row, R, rc, rfl, hk, HFIT.out, ?_, HNIL.out, hpk, HFAR.out⟩
      obtain ⟨p1, p2⟩ := HOWN.out
      refine ⟨p1, ?_⟩
      rcases p2 with p2 | ⟨q, cap, cur, ha, hb, hrest⟩
      · exact .inl p2
      · exact .inr ⟨q, cap, cur, ha, by omega, hrest⟩
end Go.Proofs.YtkdpjocglfephaaDoor
