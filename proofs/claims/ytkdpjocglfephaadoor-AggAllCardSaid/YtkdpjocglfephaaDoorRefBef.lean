
import Derived.Test.YtkdpjocglfephaaDoorGrpT
import Derived.Test.YtkdpjocglfephaaDoorBase
import Derived.Test.YtkdpjocglfephaaDoorCell
import Derived.Test.YtkdpjocglfephaaDoorAggB
import Derived.Test.YtkdpjocglfephaaDoorTab
import Derived.Test.YtkdpjocglfephaaDoorAggS
import Derived.Test.YtkdpjocglfephaaDoorRefSum
import Derived.Laws.Externs
import Derived.Shelf.SlSortCmp.QuietGrown
import Derived.BigQuiet
import Derived.Test.YtkdpjocglfephaaDoorInsl
import Derived.WalkKit
import Derived.Laws.OwnMore
import Derived.Laws.BytesArg
import Derived.Laws.Rows
import Derived.Deep.AppendLies
import Derived.Deep.Draws
import Derived.Test.YtkdpjocglfephaaDoorChecked
import Derived.Deep.OwnRows
import Derived.Lib.Hide
import Derived.Deep.Quiet
import Derived.Laws.AppendOwnNone
import Derived.Lib.Strings
import Derived.Outline
import Derived.WalkLawsBesides
import Derived.WalkSpells
import Derived.PlainAid
import Derived.Deep.QuietTactic
import Derived.RegionTactic
import Derived.BigRegion
import Derived.Handy
import Derived.Laws.BitsAllLaws
import Derived.Deep.RegionWith
import Derived.Lib.AppendStr
import Derived.Deep.RegionLaw
import Derived.Maps.AppendAt
import Derived.OpenShut
import Derived.WideShapes
import Derived.ChangeArms
import Derived.Deep.Slices
import Derived.Sort.Grow
import Derived.LaidEql
import Derived.Stop.Asserts
import Derived.RowKitTokens
import Derived.OrdersHeld
import Derived.Laws.BitsLemmas
import Derived.Laws.Bits64
import Derived.WalkSmall
import Derived.Stop.IfaceNil
import Derived.Lib.Bytealg
import Derived.Deep.SlicePairs
import Derived.Test.YtkdpjocglfephaaDoorShelf
import Derived.Deep.RegionHeld3
import Derived.Deep.CutBlock
import Derived.Deep.CutRange
import Derived.Sort.LotA
/- The document's before. (tools/gen_refbef.py) -/

namespace Go.Proofs.YtkdpjocglfephaaDoor
open Go.RowKit
set_option linter.unusedVariables false

/-- Keys, none of them the other way round. -/
def fkey (l : List Int) : List Value := l.flatMap fun x => [.int .i64 x, .bool false]
theorem fkey_length : ∀ l : List Int, (fkey l).length = l.length * 2
  | [] => rfl
  | x :: r => by
    have h := fkey_length r
    simp only [fkey, List.flatMap_cons, List.length_append, List.length_cons, List.length_nil] at h ⊢
    omega
theorem fkey_append (a b : List Int) : fkey (a ++ b) = fkey a ++ fkey b := List.flatMap_append
theorem fkey_get : ∀ (l : List Int) (k : Nat) (h : k < l.length), (fkey l)[k * 2]? = some (.int .i64 l[k]) ∧ (fkey l)[k * 2 + 1]? = some (.bool false)
  | x :: r, 0, _ => ⟨rfl, rfl⟩
  | x :: r, k + 1, h => by
    have ih := fkey_get r k (by simpa using h)
    have e : fkey (x :: r) = .int .i64 x :: .bool false :: fkey r := rfl
    rw [e, show (k + 1) * 2 = k * 2 + 1 + 1 by omega]
    exact ih
theorem Has.fkey {w : World} {A : Option Addr} {l : List Int} (h : Has w A (fkey l)) (k : Nat) (hk : k < l.length) :
    ∃ b off, A = some ⟨b, off, none⟩ ∧ w.cell? ⟨b, off + k * 2, none⟩ = some (.int .i64 l[k]) ∧ w.cell? ⟨b, off + k * 2 + 1, none⟩ = some (.bool false) := by
  obtain ⟨g0, g1⟩ := fkey_get l k hk
  rcases h with h | ⟨b, off, hA, _, hc⟩
  · have h1 := fkey_length l
    rw [h] at h1
    simp at h1
    omega
  · exact ⟨b, off, hA, hc _ _ g0, hc _ _ g1⟩
/-- Where the loop stands. -/
def BfI (v : Int) (cols : List (List Val3)) (bys : List Int) (x y : Nat) (w : World) (iv : Value) (wr : World) : Prop := ∃ k : Nat, iv = .int .i64 k ∧ k ≤ bys.length ∧ v = cmpBy cols (bys.drop k) x y ∧ Later w wr
theorem BfI.mk {v : Int} {cols : List (List Val3)} {bys : List Int} {x y : Nat} {w wr : World} (z : Int) (k : Nat) (hz : z = (k : Int)) (hk : k ≤ bys.length) (h : v = cmpBy cols (bys.drop k) x y) (L : Later w wr) : BfI v cols bys x y w (.int .i64 z) wr := by
  subst hz; exact ⟨k, rfl, hk, h, L⟩

set_option maxRecDepth 100000 in
set_option maxHeartbeats 4000000 in
theorem refBefore_any (A Kp : Option Addr) (n c kn kc : Nat) (zs : List SlV) (bys : List Int) (x y : Nat) (w : World) (hn : n = zs.length) (hkn : kn = bys.length) (hl : zs.length ≤ 1000) (hkl : bys.length ≤ 1000) (hr : RowsAt w A zs) (hk : Has w Kp (fkey bys)) (hin : ∀ c ∈ bys, 0 ≤ c ∧ c < (zs.length : Int))
    (hxy : ∀ s ∈ zs, (x < s.l.length ∧ y < s.l.length) ∧ s.l.length ≤ 1000) :
    Calls Tryd.prog 62 #[.slice A n c, .slice Kp kn kc, .int .i64 (x : Int), .int .i64 (y : Int)] w fun e w' => e = .returned (.bool (decide (cmpBy (colsOf zs) bys x y < 0))) ∧ Later w w' := by
  subst hn hkn
  have HR := Lib.hid hr
  have HK := Lib.hid hk
  have HIN := Lib.hid hin
  have HXY := Lib.hid hxy
  obtain ⟨v0, hv0⟩ : ∃ v, cmpBy (colsOf zs) bys x y = v := ⟨_, rfl⟩
  rw [hv0]
  have HI0 := Lib.hid (BfI.mk (v := v0) (cols := colsOf zs) (bys := bys) (x := x) (y := y) (w := w) (wr := w) 0 0 rfl (Nat.zero_le _) (by rw [List.drop_zero]; exact hv0.symm) (Later.refl _))
  clear hr hk hin hxy hv0
  go_enter Tryd.func62, Tryd.ntmps62
  go_wp2_with fail
  go_loopw [9] (fun iv wr => BfI v0 (colsOf zs) bys x y w iv wr) (fun i _ => bys.length - (intOf i).toNat)
  case atStart => exact HI0.out
  case round =>
    obtain ⟨k, rfl, hk, hv, lat⟩ := hrel
    have HV := Lib.hid hv
    have HLAT := Lib.hid lat
    clear HI0 hv
    by_cases hlt : k < bys.length
    · have hkz : (k : Int) < (bys.length : Int) := by omega
      obtain ⟨pb, po, hKp, cb, cd⟩ := (HK.out.later lat).fkey k hlt
      subst hKp
      obtain ⟨hc0, hc1⟩ := HIN.out _ (List.getElem_mem hlt)
      have HD := Lib.hid (cmpBy_drop (colsOf zs) bys k hlt x y)
      generalize bys[k] = c1 at cb HD hc0 hc1
      obtain ⟨cn, rfl⟩ := Int.eq_ofNat_of_zero_le hc0
      have hcn : cn < zs.length := by omega
      obtain ⟨⟨hx1, hy1⟩, hl1⟩ := HXY.out _ (List.getElem_mem hcn)
      have dcz : decide ((cn : Int) < 0) = false := by simp
      have dcn : decide ((zs.length : Int) ≤ (cn : Int)) = false := by simp; omega
      have hcl : (cn : Int) < (zs.length : Int) := by omega
      have dcn2 : decide (zs.length ≤ cn) = false := by simp; omega
      obtain ⟨ab, ao, hA, cx, hxr, -, -, -⟩ := (HR.out.later lat).get cn hcn
      subst hA
      rw [cellAt_get zs cn x hcn hx1, cellAt_get zs cn y hcn hy1] at HD
      obtain ⟨rb, ro, hra, x0, x1, x2⟩ := hxr.val3 x hx1
      obtain ⟨rb', ro', hra', y0, y1, y2⟩ := hxr.val3 y hy1
      rw [hra] at hra' cx
      injection hra' with hra'
      injection hra' with e1 e2
      subst e1 e2
      have hxl : (x : Int) < (zs[cn].l.length : Int) := by omega
      have hyl : (y : Int) < (zs[cn].l.length : Int) := by omega
      have HX3 := Lib.hid (show zs[cn].l[x] = (zs[cn].l[x].1, zs[cn].l[x].2.1, zs[cn].l[x].2.2) from rfl)
      have HY3 := Lib.hid (show zs[cn].l[y] = (zs[cn].l[y].1, zs[cn].l[y].2.1, zs[cn].l[y].2.2) from rfl)
      rw [HX3.out, HY3.out] at HD
      clear HX3 HY3 hxr hra hc0 hc1
      generalize zs[cn].l[x].1 = t at x0 HD
      generalize zs[cn].l[x].2.1 = i at x1 HD
      generalize zs[cn].l[x].2.2 = s at x2 HD
      generalize zs[cn].l[y].1 = t' at y0 HD
      generalize zs[cn].l[y].2.1 = i' at y1 HD
      generalize zs[cn].l[y].2.2 = s' at y2 HD
      generalize zs[cn].c = zc at cx
      generalize zs[cn].l.length = zl at cx hxl hyl hx1 hy1 hl1
      have HC := Lib.hid (fun (W : World) (l : Later wr W) => refCmp_any t i s t' i' s' W)
      have HCB := Lib.hid (show CellIs wr _ _ from cb)
      have HCD := Lib.hid (show CellIs wr _ _ from cd)
      have HCX := Lib.hid (show CellIs wr _ _ from cx)
      have HX0 := Lib.hid (show CellIs wr _ _ from x0)
      have HX1 := Lib.hid (show CellIs wr _ _ from x1)
      have HX2 := Lib.hid (show CellIs wr _ _ from x2)
      have HY0 := Lib.hid (show CellIs wr _ _ from y0)
      have HY1 := Lib.hid (show CellIs wr _ _ from y1)
      have HY2 := Lib.hid (show CellIs wr _ _ from y2)
      obtain ⟨v, hvv⟩ : ∃ v, cmp3 (t, i, s) (t', i', s') = v := ⟨_, rfl⟩
      have hv' : cmpV t i s t' i' s' = v := hvv
      rw [hvv] at HD
      rw [hv'] at HC
      clear hvv hv' cx x0 x1 x2 y0 y1 y2 lat hcn
      go_upto_region 5 with fail
      clear cb cd
      go_cut [10] from 33 to 55 (fun cv wx => cv = .int .i64 v ∧ Later wr wx)
      case first => as_aux_lemma =>
        refine wp_region_K (S := fun W : World => Later wr W) (R := Later) (fun _ => Later.refl _) (by kernel_rfl) ?_
        have hS : (fun W : World => Later wr W) wr.drew := (Later.refl wr).drew
        refine wpAnyK_take Later.refl (fun _ _ _ h k => h.trans k) (fun _ _ h k => h.trans k) (i := 0) (oi := { dst := some 33, op := _, type := _, pos := _, after := _, guard := _ }) (v := ?_) rfl (by kernel_rfl) (by kernel_rfl) (by kernel_rfl) (fun _ _ _ h => h) (Or.inl (Or.inl ⟨by rfl, ?_⟩)) hS ?_
        rotate_left
        focus ((intro w hSw; (try dsimp only at hSw); skip; go_simp); (try with_reducible rfl))
        intro wq hwq
        replace hS := hS.trans hwq
        (try simp only [Act.put, List.setIfInBounds_toArray, List.set_cons_zero, List.set_cons_succ])
        clear hwq
        refine wpAnyK_take Later.refl (fun _ _ _ h k => h.trans k) (fun _ _ h k => h.trans k) (i := 1) (oi := { dst := some 34, op := _, type := _, pos := _, after := _, guard := _ }) (v := ?_) rfl (by kernel_rfl) (by kernel_rfl) (by kernel_rfl) (fun _ _ _ h => h) (Or.inl (Or.inl ⟨by rfl, ?_⟩)) hS ?_
        rotate_left
        focus ((intro w hSw; (try dsimp only at hSw); skip; go_simp); (try with_reducible rfl))
        intro wq hwq
        replace hS := hS.trans hwq
        (try simp only [Act.put, List.setIfInBounds_toArray, List.set_cons_zero, List.set_cons_succ])
        clear hwq
        refine wpAnyK_take Later.refl (fun _ _ _ h k => h.trans k) (fun _ _ h k => h.trans k) (i := 2) (oi := { dst := some 35, op := _, type := _, pos := _, after := _, guard := _ }) (v := ?_) rfl (by kernel_rfl) (by kernel_rfl) (by kernel_rfl) (fun _ _ _ h => h) (Or.inl (Or.inl ⟨by rfl, ?_⟩)) hS ?_
        rotate_left
        focus ((intro w hSw; (try dsimp only at hSw); skip; go_simp); (try with_reducible rfl))
        intro wq hwq
        replace hS := hS.trans hwq
        (try simp only [Act.put, List.setIfInBounds_toArray, List.set_cons_zero, List.set_cons_succ])
        clear hwq
        refine wpAnyK_take Later.refl (fun _ _ _ h k => h.trans k) (fun _ _ h k => h.trans k) (i := 3) (oi := { dst := some 36, op := _, type := _, pos := _, after := _, guard := _ }) (v := ?_) rfl (by kernel_rfl) (by kernel_rfl) (by kernel_rfl) (fun _ _ _ h => h) (Or.inl (Or.inl ⟨by rfl, ?_⟩)) hS ?_
        rotate_left
        focus ((intro w hSw; (try dsimp only at hSw); skip; go_simp); (try with_reducible rfl))
        intro wq hwq
        replace hS := hS.trans hwq
        (try simp only [Act.put, List.setIfInBounds_toArray, List.set_cons_zero, List.set_cons_succ])
        clear hwq
        refine wpAnyK_take Later.refl (fun _ _ _ h k => h.trans k) (fun _ _ h k => h.trans k) (i := 4) (oi := { dst := some 37, op := _, type := _, pos := _, after := _, guard := _ }) (v := ?_) rfl (by kernel_rfl) (by kernel_rfl) (by kernel_rfl) (fun _ _ _ h => h) (Or.inl (Or.inl ⟨by rfl, ?_⟩)) hS ?_
        rotate_left
        focus ((intro w hSw; (try dsimp only at hSw); skip; go_simp); (try with_reducible rfl))
        intro wq hwq
        replace hS := hS.trans hwq
        (try simp only [Act.put, List.setIfInBounds_toArray, List.set_cons_zero, List.set_cons_succ])
        clear hwq
        refine wpAnyK_take Later.refl (fun _ _ _ h k => h.trans k) (fun _ _ h k => h.trans k) (i := 5) (oi := { dst := some 38, op := _, type := _, pos := _, after := _, guard := _ }) (v := ?_) rfl (by kernel_rfl) (by kernel_rfl) (by kernel_rfl) (fun _ _ _ h => h) (Or.inl (Or.inl ⟨by rfl, ?_⟩)) hS ?_
        rotate_left
        focus ((intro w hSw; (try dsimp only at hSw); have c := HCB.out.later hSw; have c := c.out; go_simp); (try with_reducible rfl))
        intro wq hwq
        replace hS := hS.trans hwq
        (try simp only [Act.put, List.setIfInBounds_toArray, List.set_cons_zero, List.set_cons_succ])
        clear hwq
        refine wpAnyK_take Later.refl (fun _ _ _ h k => h.trans k) (fun _ _ h k => h.trans k) (i := 6) (oi := { dst := some 39, op := _, type := _, pos := _, after := _, guard := _ }) (v := ?_) rfl (by kernel_rfl) (by kernel_rfl) (by kernel_rfl) (fun _ _ _ h => h) (Or.inl (Or.inl ⟨by rfl, ?_⟩)) hS ?_
        rotate_left
        focus ((intro w hSw; (try dsimp only at hSw); skip; go_simp); (try with_reducible rfl))
        intro wq hwq
        replace hS := hS.trans hwq
        (try simp only [Act.put, List.setIfInBounds_toArray, List.set_cons_zero, List.set_cons_succ])
        clear hwq
        refine wpAnyK_take Later.refl (fun _ _ _ h k => h.trans k) (fun _ _ h k => h.trans k) (i := 7) (oi := { dst := some 40, op := _, type := _, pos := _, after := _, guard := _ }) (v := ?_) rfl (by kernel_rfl) (by kernel_rfl) (by kernel_rfl) (fun _ _ _ h => h) (Or.inl (Or.inl ⟨by rfl, ?_⟩)) hS ?_
        rotate_left
        focus ((intro w hSw; (try dsimp only at hSw); have c := HCX.out.later hSw; have c := c.out; go_simp); (try with_reducible rfl))
        intro wq hwq
        replace hS := hS.trans hwq
        (try simp only [Act.put, List.setIfInBounds_toArray, List.set_cons_zero, List.set_cons_succ])
        clear hwq
        refine wpAnyK_take Later.refl (fun _ _ _ h k => h.trans k) (fun _ _ h k => h.trans k) (i := 8) (oi := { dst := some 41, op := _, type := _, pos := _, after := _, guard := _ }) (v := ?_) rfl (by kernel_rfl) (by kernel_rfl) (by kernel_rfl) (fun _ _ _ h => h) (Or.inl (Or.inl ⟨by rfl, ?_⟩)) hS ?_
        rotate_left
        focus ((intro w hSw; (try dsimp only at hSw); skip; go_simp); (try with_reducible rfl))
        intro wq hwq
        replace hS := hS.trans hwq
        (try simp only [Act.put, List.setIfInBounds_toArray, List.set_cons_zero, List.set_cons_succ])
        clear hwq
        refine wpAnyK_take Later.refl (fun _ _ _ h k => h.trans k) (fun _ _ h k => h.trans k) (i := 9) (oi := { dst := some 42, op := _, type := _, pos := _, after := _, guard := _ }) (v := ?_) rfl (by kernel_rfl) (by kernel_rfl) (by kernel_rfl) (fun _ _ _ h => h) (Or.inl (Or.inl ⟨by rfl, ?_⟩)) hS ?_
        rotate_left
        focus ((intro w hSw; (try dsimp only at hSw); skip; go_simp); (try with_reducible rfl))
        intro wq hwq
        replace hS := hS.trans hwq
        (try simp only [Act.put, List.setIfInBounds_toArray, List.set_cons_zero, List.set_cons_succ])
        clear hwq
        refine wpAnyK_take Later.refl (fun _ _ _ h k => h.trans k) (fun _ _ h k => h.trans k) (i := 10) (oi := { dst := some 43, op := _, type := _, pos := _, after := _, guard := _ }) (v := ?_) rfl (by kernel_rfl) (by kernel_rfl) (by kernel_rfl) (fun _ _ _ h => h) (Or.inl (Or.inl ⟨by rfl, ?_⟩)) hS ?_
        rotate_left
        focus ((intro w hSw; (try dsimp only at hSw); have e0 := HX0.out.later hSw; have e0 := e0.out; have e1 := HX1.out.later hSw; have e1 := e1.out; have e2 := HX2.out.later hSw; have e2 := e2.out; go_simp); (try with_reducible rfl))
        intro wq hwq
        replace hS := hS.trans hwq
        (try simp only [Act.put, List.setIfInBounds_toArray, List.set_cons_zero, List.set_cons_succ])
        clear hwq
        refine wpAnyK_take Later.refl (fun _ _ _ h k => h.trans k) (fun _ _ h k => h.trans k) (i := 11) (oi := { dst := some 44, op := _, type := _, pos := _, after := _, guard := _ }) (v := ?_) rfl (by kernel_rfl) (by kernel_rfl) (by kernel_rfl) (fun _ _ _ h => h) (Or.inl (Or.inl ⟨by rfl, ?_⟩)) hS ?_
        rotate_left
        focus ((intro w hSw; (try dsimp only at hSw); skip; go_simp); (try with_reducible rfl))
        intro wq hwq
        replace hS := hS.trans hwq
        (try simp only [Act.put, List.setIfInBounds_toArray, List.set_cons_zero, List.set_cons_succ])
        clear hwq
        refine wpAnyK_take Later.refl (fun _ _ _ h k => h.trans k) (fun _ _ h k => h.trans k) (i := 12) (oi := { dst := some 45, op := _, type := _, pos := _, after := _, guard := _ }) (v := ?_) rfl (by kernel_rfl) (by kernel_rfl) (by kernel_rfl) (fun _ _ _ h => h) (Or.inl (Or.inl ⟨by rfl, ?_⟩)) hS ?_
        rotate_left
        focus ((intro w hSw; (try dsimp only at hSw); skip; go_simp); (try with_reducible rfl))
        intro wq hwq
        replace hS := hS.trans hwq
        (try simp only [Act.put, List.setIfInBounds_toArray, List.set_cons_zero, List.set_cons_succ])
        clear hwq
        refine wpAnyK_take Later.refl (fun _ _ _ h k => h.trans k) (fun _ _ h k => h.trans k) (i := 13) (oi := { dst := some 46, op := _, type := _, pos := _, after := _, guard := _ }) (v := ?_) rfl (by kernel_rfl) (by kernel_rfl) (by kernel_rfl) (fun _ _ _ h => h) (Or.inl (Or.inl ⟨by rfl, ?_⟩)) hS ?_
        rotate_left
        focus ((intro w hSw; (try dsimp only at hSw); skip; go_simp); (try with_reducible rfl))
        intro wq hwq
        replace hS := hS.trans hwq
        (try simp only [Act.put, List.setIfInBounds_toArray, List.set_cons_zero, List.set_cons_succ])
        clear hwq
        refine wpAnyK_take Later.refl (fun _ _ _ h k => h.trans k) (fun _ _ h k => h.trans k) (i := 14) (oi := { dst := some 47, op := _, type := _, pos := _, after := _, guard := _ }) (v := ?_) rfl (by kernel_rfl) (by kernel_rfl) (by kernel_rfl) (fun _ _ _ h => h) (Or.inl (Or.inl ⟨by rfl, ?_⟩)) hS ?_
        rotate_left
        focus ((intro w hSw; (try dsimp only at hSw); skip; go_simp); (try with_reducible rfl))
        intro wq hwq
        replace hS := hS.trans hwq
        (try simp only [Act.put, List.setIfInBounds_toArray, List.set_cons_zero, List.set_cons_succ])
        clear hwq
        refine wpAnyK_take Later.refl (fun _ _ _ h k => h.trans k) (fun _ _ h k => h.trans k) (i := 15) (oi := { dst := some 48, op := _, type := _, pos := _, after := _, guard := _ }) (v := ?_) rfl (by kernel_rfl) (by kernel_rfl) (by kernel_rfl) (fun _ _ _ h => h) (Or.inl (Or.inl ⟨by rfl, ?_⟩)) hS ?_
        rotate_left
        focus ((intro w hSw; (try dsimp only at hSw); skip; go_simp); (try with_reducible rfl))
        intro wq hwq
        replace hS := hS.trans hwq
        (try simp only [Act.put, List.setIfInBounds_toArray, List.set_cons_zero, List.set_cons_succ])
        clear hwq
        refine wpAnyK_take Later.refl (fun _ _ _ h k => h.trans k) (fun _ _ h k => h.trans k) (i := 16) (oi := { dst := some 49, op := _, type := _, pos := _, after := _, guard := _ }) (v := ?_) rfl (by kernel_rfl) (by kernel_rfl) (by kernel_rfl) (fun _ _ _ h => h) (Or.inl (Or.inl ⟨by rfl, ?_⟩)) hS ?_
        rotate_left
        focus ((intro w hSw; (try dsimp only at hSw); have c := HCB.out.later hSw; have c := c.out; go_simp); (try with_reducible rfl))
        intro wq hwq
        replace hS := hS.trans hwq
        (try simp only [Act.put, List.setIfInBounds_toArray, List.set_cons_zero, List.set_cons_succ])
        clear hwq
        refine wpAnyK_take Later.refl (fun _ _ _ h k => h.trans k) (fun _ _ h k => h.trans k) (i := 17) (oi := { dst := some 50, op := _, type := _, pos := _, after := _, guard := _ }) (v := ?_) rfl (by kernel_rfl) (by kernel_rfl) (by kernel_rfl) (fun _ _ _ h => h) (Or.inl (Or.inl ⟨by rfl, ?_⟩)) hS ?_
        rotate_left
        focus ((intro w hSw; (try dsimp only at hSw); skip; go_simp); (try with_reducible rfl))
        intro wq hwq
        replace hS := hS.trans hwq
        (try simp only [Act.put, List.setIfInBounds_toArray, List.set_cons_zero, List.set_cons_succ])
        clear hwq
        refine wpAnyK_take Later.refl (fun _ _ _ h k => h.trans k) (fun _ _ h k => h.trans k) (i := 18) (oi := { dst := some 51, op := _, type := _, pos := _, after := _, guard := _ }) (v := ?_) rfl (by kernel_rfl) (by kernel_rfl) (by kernel_rfl) (fun _ _ _ h => h) (Or.inl (Or.inl ⟨by rfl, ?_⟩)) hS ?_
        rotate_left
        focus ((intro w hSw; (try dsimp only at hSw); have c := HCX.out.later hSw; have c := c.out; go_simp); (try with_reducible rfl))
        intro wq hwq
        replace hS := hS.trans hwq
        (try simp only [Act.put, List.setIfInBounds_toArray, List.set_cons_zero, List.set_cons_succ])
        clear hwq
        refine wpAnyK_take Later.refl (fun _ _ _ h k => h.trans k) (fun _ _ h k => h.trans k) (i := 19) (oi := { dst := some 52, op := _, type := _, pos := _, after := _, guard := _ }) (v := ?_) rfl (by kernel_rfl) (by kernel_rfl) (by kernel_rfl) (fun _ _ _ h => h) (Or.inl (Or.inl ⟨by rfl, ?_⟩)) hS ?_
        rotate_left
        focus ((intro w hSw; (try dsimp only at hSw); skip; go_simp); (try with_reducible rfl))
        intro wq hwq
        replace hS := hS.trans hwq
        (try simp only [Act.put, List.setIfInBounds_toArray, List.set_cons_zero, List.set_cons_succ])
        clear hwq
        refine wpAnyK_take Later.refl (fun _ _ _ h k => h.trans k) (fun _ _ h k => h.trans k) (i := 20) (oi := { dst := some 53, op := _, type := _, pos := _, after := _, guard := _ }) (v := ?_) rfl (by kernel_rfl) (by kernel_rfl) (by kernel_rfl) (fun _ _ _ h => h) (Or.inl (Or.inl ⟨by rfl, ?_⟩)) hS ?_
        rotate_left
        focus ((intro w hSw; (try dsimp only at hSw); skip; go_simp); (try with_reducible rfl))
        intro wq hwq
        replace hS := hS.trans hwq
        (try simp only [Act.put, List.setIfInBounds_toArray, List.set_cons_zero, List.set_cons_succ])
        clear hwq
        refine wpAnyK_take Later.refl (fun _ _ _ h k => h.trans k) (fun _ _ h k => h.trans k) (i := 21) (oi := { dst := some 54, op := _, type := _, pos := _, after := _, guard := _ }) (v := ?_) rfl (by kernel_rfl) (by kernel_rfl) (by kernel_rfl) (fun _ _ _ h => h) (Or.inl (Or.inl ⟨by rfl, ?_⟩)) hS ?_
        rotate_left
        focus ((intro w hSw; (try dsimp only at hSw); have e0 := HY0.out.later hSw; have e0 := e0.out; have e1 := HY1.out.later hSw; have e1 := e1.out; have e2 := HY2.out.later hSw; have e2 := e2.out; go_simp); (try with_reducible rfl))
        intro wq hwq
        replace hS := hS.trans hwq
        (try simp only [Act.put, List.setIfInBounds_toArray, List.set_cons_zero, List.set_cons_succ])
        clear hwq
        refine wpAnyK_take Later.refl (fun _ _ _ h k => h.trans k) (fun _ _ h k => h.trans k) (i := 22) (oi := { dst := some 55, op := _, type := _, pos := _, after := _, guard := _ }) (v := .int .i64 v) rfl (by kernel_rfl) (by kernel_rfl) (by kernel_rfl) (fun _ _ _ h => h) (Or.inr ⟨by rfl, 26, #[.agg #[.int .i64 t, .int .i64 i, .string s], .agg #[.int .i64 t', .int .i64 i', .string s']], fun W hW => ⟨?_, HC.out W hW⟩⟩) hS ?_
        · first | rfl | (go_simp; done)
        intro wq hwq
        replace hS := hS.trans hwq
        (try simp only [Act.put, List.setIfInBounds_toArray, List.set_cons_zero, List.set_cons_succ])
        clear hwq
        refine wpAnyK_take Later.refl (fun _ _ _ h k => h.trans k) (fun _ _ h k => h.trans k) (i := 23) (oi := { dst := some 10, op := _, type := _, pos := _, after := _, guard := _ }) (v := ?_) rfl (by kernel_rfl) (by kernel_rfl) (by kernel_rfl) (fun _ _ _ h => h) (Or.inl (Or.inl ⟨by rfl, ?_⟩)) hS ?_
        rotate_left
        focus ((intro w hSw; (try dsimp only at hSw); skip; go_simp); (try with_reducible rfl))
        intro wq hwq
        replace hS := hS.trans hwq
        (try simp only [Act.put, List.setIfInBounds_toArray, List.set_cons_zero, List.set_cons_succ])
        clear hwq
        refine wpAnyK_done (by kernel_rfl) ?_ _
        go_wp2_with fail
        go_meet
        exact ⟨rfl, hS⟩
      case rest =>
      obtain ⟨rfl, lx⟩ := hcut
      have HLX := Lib.hid (HLAT.out.trans lx)
      have cd := (HCD.out.later lx).out
      clear lx HC HCB HCX HX0 HX1 HX2 HY0 HY1 HY2 HLAT HCD
      by_cases hv0 : v = 0
      · have hvb : (v != 0) = false := by simp [hv0]
        have HT := Lib.hid (show v0 = cmpBy (colsOf zs) (bys.drop (k + 1)) x y from by rw [HV.out, HD.out, if_pos hv0])
        clear hv0 HD HV
        go_wp2_with fail
        go_roundw
        case rel => exact BfI.mk _ (k + 1) (by go_num) hlt HT.out HLX.out
        case measure => simp [intOf]; omega
      · have hvb : (v != 0) = true := by simp [hv0]
        have HT := Lib.hid (show v0 = v from by rw [HV.out, HD.out, if_neg hv0])
        clear hv0 HD HV
        go_wp2_with fail
        go_ret
        exact ⟨by rw [HT.out]; rfl, HLX.out⟩
    · have hkz : ¬ (k : Int) < (bys.length : Int) := by omega
      have HT := Lib.hid (show v0 = 0 from by rw [HV.out, List.drop_eq_nil_of_le (by omega)]; rfl)
      clear lat HV
      go_wp2_with fail
      go_ret
      exact ⟨by rw [HT.out]; rfl, HLAT.out⟩
end Go.Proofs.YtkdpjocglfephaaDoor

/- The walk of agg.run. -/



namespace Go.Proofs.YtkdpjocglfephaaDoor
open Go.RowKit
set_option linter.unusedVariables false

/-- One after another, up to the first error. -/
def stepE {α β : Type} (f : α → Except Int β) (acc : Except Int (List β)) (a : α) : Except Int (List β) :=
  match acc with
  | .error n => .error n
  | .ok vs => match f a with
    | .error n => .error n
    | .ok v => .ok (vs ++ [v])
def mapE {α β : Type} (f : α → Except Int β) (l : List α) : Except Int (List β) := l.foldl (stepE f) (.ok [])
theorem mapE_take {α β : Type} (f : α → Except Int β) (l : List α) (k : Nat) (h : k < l.length) : mapE f (l.take (k + 1)) = stepE f (mapE f (l.take k)) l[k] := by
  unfold mapE
  rw [List.take_succ_eq_append_getElem h, List.foldl_append]; rfl
theorem mapE_ok {α β : Type} {f : α → Except Int β} {l : List α} {k : Nat} (h : k < l.length) {vs : List β} {v : β} (h1 : mapE f (l.take k) = .ok vs) (h2 : f l[k] = .ok v) : mapE f (l.take (k + 1)) = .ok (vs ++ [v]) := by
  rw [mapE_take f l k h, h1]
  simp only [stepE, h2]
theorem foldl_err {α β : Type} (f : α → Except Int β) (n : Int) : ∀ r : List α, r.foldl (stepE f) (Except.error n : Except Int (List β)) = Except.error n
  | [] => rfl
  | _ :: r => foldl_err f n r
theorem mapE_no {α β : Type} {f : α → Except Int β} {l : List α} {k : Nat} (h : k < l.length) {vs : List β} {n : Int} (h1 : mapE f (l.take k) = .ok vs) (h2 : f l[k] = .error n) : mapE f l = .error n := by
  have e : mapE f (l.take (k + 1)) = .error n := by
    rw [mapE_take f l k h, h1]
    simp only [stepE, h2]
  unfold mapE at *
  conv => lhs; rw [← List.take_append_drop (k + 1) l]
  rw [List.foldl_append, e, foldl_err]
/-- A group's row. -/
def rowE (cols : List (List Val3)) (bys : List Int) (aggs : List (Int × Int)) (ps : List Nat) : Except Int (List Val3) :=
  match mapE (fun a : Int × Int => ofA cols ps a.1 a.2) aggs with
  | .error n => .error n
  | .ok vs => .ok (bys.map (fun c => cellAt cols c (ps.getD 0 0)) ++ vs)
theorem rowE_ok {cols : List (List Val3)} {bys : List Int} {aggs : List (Int × Int)} {ps : List Nat} {vs : List Val3} (h : mapE (fun a : Int × Int => ofA cols ps a.1 a.2) aggs = .ok vs) : rowE cols bys aggs ps = .ok (bys.map (fun c => cellAt cols c (ps.getD 0 0)) ++ vs) := by
  unfold rowE; rw [h]
theorem rowE_no {cols : List (List Val3)} {bys : List Int} {aggs : List (Int × Int)} {ps : List Nat} {n : Int} (h : mapE (fun a : Int × Int => ofA cols ps a.1 a.2) aggs = .error n) : rowE cols bys aggs ps = .error n := by
  unfold rowE; rw [h]
theorem GroupsOf.row_le {cols : List (List Val3)} {bys : List Int} {N : Nat} {R : List (List Nat)} (h : GroupsOf cols bys N R) : ∀ g ∈ R, g.length ≤ N := by
  rcases h with ⟨_, rfl⟩ | ⟨_, S, _, rfl⟩
  · intro g hg
    rw [List.mem_singleton] at hg
    subst hg
    simp
  · exact runsK_row_le _ S N
def runE (cols : List (List Val3)) (bys : List Int) (aggs : List (Int × Int)) (R : List (List Nat)) : Except Int (List (List Val3)) := mapE (rowE cols bys aggs) R
/-- What run gives. -/
def RunP1 (cols : List (List Val3)) (bys : List Int) (aggs : List (Int × Int)) (W : Int) (a0 a1 a2 : Addr) (w : World) (e : Ending) (w' : World) : Prop :=
  (¬ RunOk W bys aggs ∧ ∃ v, e = .returned (.tuple #[.slice none 0 0, v]) ∧ ErrD w.heap.size 1 w' v a0 ∧ Later w w') ∨
  (RunOk W bys aggs ∧ ∃ R, GroupsOf cols bys (heightC cols) R ∧
    ((∃ (A : Option Addr) (c : Nat) (rs : List SlV), e = .returned (.tuple #[.slice A rs.length c, .nilIface]) ∧ runE cols bys aggs R = .ok (rs.map (·.l)) ∧ RowsAt w' A rs ∧ rs.length ≤ c ∧ c ≤ 9223372036854775807 ∧ Later w w') ∨
     (∃ n v, runE cols bys aggs R = .error n ∧ (n = 4 ∨ n = 5) ∧ e = .returned (.tuple #[.slice none 0 0, v]) ∧ ErrD w.heap.size 3 w' v (sentA n a0 a1 a2) ∧ Later w w')))
/-- Where the groups' loop stands. -/
def RgI (cols : List (List Val3)) (bys : List Int) (aggs : List (Int × Int)) (R : List (List Nat)) (w : World) (rv iv : Value) (wr : World) : Prop :=
  ∃ (k : Nat) (A : Option Addr) (n c : Nat) (rs : List SlV), rv = .slice A n c ∧ iv = .int .i64 k ∧ k ≤ R.length ∧ n = k ∧ mapE (rowE cols bys aggs) (R.take k) = .ok (rs.map (·.l)) ∧ RowsOn w.heap.size wr A n c rs ∧ Later w wr
theorem RgI.mk {cols : List (List Val3)} {bys : List Int} {aggs : List (Int × Int)} {R : List (List Nat)} {w wr : World} (y : Int) (k : Nat) (A : Option Addr) (n c : Nat) (rs : List SlV) (hy : y = (k : Int)) (hk : k ≤ R.length) (hnk : n = k) (h : mapE (rowE cols bys aggs) (R.take k) = .ok (rs.map (·.l))) (ho : RowsOn w.heap.size wr A n c rs) (L : Later w wr) : RgI cols bys aggs R w (.slice A n c) (.int .i64 y) wr := by
  subst hy; exact ⟨k, A, n, c, rs, rfl, rfl, hk, hnk, h, ho, L⟩
/-- Where a row's loops stand. -/
def R2I (F : Nat → Nat → List Val3 → Prop) (M N0 : Nat) (ws : World) (rv iv : Value) (wr : World) : Prop :=
  ∃ (j : Nat) (A : Option Addr) (n c : Nat) (xs : List Val3), rv = .slice A n c ∧ iv = .int .i64 j ∧ j ≤ M ∧ n = N0 + j ∧ F j n xs ∧ wr.ownsRow ws.heap.size 26 3 (.slice A n c) n (fl xs) ∧ (A = none → c = 0) ∧ Later ws wr
theorem R2I.mk {F : Nat → Nat → List Val3 → Prop} {M N0 : Nat} {ws wr : World} (y : Int) (j : Nat) (A : Option Addr) (n c : Nat) (xs : List Val3) (hy : y = (j : Int)) (hj : j ≤ M) (hn : n = N0 + j) (hF : F j n xs) (ho : wr.ownsRow ws.heap.size 26 3 (.slice A n c) n (fl xs)) (hnil : A = none → c = 0) (L : Later ws wr) : R2I F M N0 ws (.slice A n c) (.int .i64 y) wr := by
  subst hy; exact ⟨j, A, n, c, xs, rfl, rfl, hj, hn, hF, ho, hnil, L⟩

set_option maxRecDepth 100000 in
set_option maxHeartbeats 16000000 in
theorem run_any24 (A Bp Gp : Option Addr) (n c bn bc gn gc : Nat) (zs : List SlV) (bys : List Int) (aggs : List (Int × Int)) (a0 a1 a2 : Addr) (w : World) (hS : S24 w a0 a1 a2) (hn : n = zs.length) (hl : n ≤ 1000) (hbn : bn = bys.length) (hbl : bn ≤ 1000) (hgn : gn = aggs.length) (hgl : gn ≤ 1000) (hr : RowsAt w A zs) (hb : Has w Bp (iin bys)) (hg : Has w Gp (fa aggs)) (hlen : ∀ s ∈ zs, s.l.length ≤ 1000) (h20 : heightC (colsOf zs) ≤ 20)
    (h64 : ∀ s ∈ zs, ∀ x ∈ s.l, -9223372036854775808 ≤ x.2.1 ∧ x.2.1 ≤ 9223372036854775807) :
    Calls Tryd.prog 37 #[.slice A n c, .slice Bp bn bc, .slice Gp gn gc] w (RunP1 (colsOf zs) bys aggs (zs.length : Int) a0 a1 a2 w) := by
  subst hn hbn hgn
  have HS := Lib.hid hS
  have HR := Lib.hid hr
  have HB := Lib.hid hb
  have HG := Lib.hid hg
  have HLEN := Lib.hid hlen
  have H64 := Lib.hid h64
  have hif : Tryd.prog.isIface 89 = true := by kernel_rfl
  have HCK := Lib.hid (check_any24 (zs.length : Int) Bp Gp bys.length bc aggs.length gc bys aggs a0 a1 a2 w hS rfl rfl hb hg hbl hgl)
  clear hS hr hb hg hlen h64
  go_enter Tryd.func37, Tryd.ntmps37
  go_wp2_with fail
  refine HCK.out.mono ?_
  rintro e w1 (⟨hok, rfl, l1⟩ | ⟨hbad, v, rfl, hv, l1⟩)
  rotate_left
  · have HV := Lib.hid hv
    obtain ⟨p, rfl, _⟩ := hv
    have heq := run_eql_iface_nil (P := Tryd.prog) (w := w1) 89 hif 144 (.pointer (some ⟨p, 0, none⟩))
    have HL1 := Lib.hid l1
    have HBAD := Lib.hid hbad
    clear l1 hbad HCK
    go_wp2_with fail
    go_ret2
    exact .inl ⟨HBAD.out, _, rfl, HV.out, HL1.out⟩
  · have HOK := Lib.hid hok
    have HL1 := Lib.hid l1
    have HGR := Lib.hid (groups_any A Bp zs.length c bys.length bc zs bys w1 rfl hl rfl hbl (HR.out.later l1) (HB.out.later l1) HLEN.out h20 hok.1)
    clear l1 hok HCK
    go_wp2_with fail
    refine HGR.out.mono ?_
    rintro e wb ⟨Ra, rc0, R, rfl, hgo, hgat, lb⟩
    have HGO := Lib.hid hgo
    have HGA := Lib.hid hgat
    have HMEM := Lib.hid hgo.mem
    have HROWL := Lib.hid hgo.row_le
    have HLB := Lib.hid (HL1.out.trans lb)
    have hRl : R.length ≤ 20 := by have := hgo.mem.2; omega
    have HI0 := Lib.hid (RgI.mk (cols := colsOf zs) (bys := bys) (aggs := aggs) (R := R) (w := wb) (wr := wb) 0 0 none 0 0 [] rfl (Nat.zero_le _) rfl rfl (RowsOn.nil_ _ _) (Later.refl _))
    clear hgo hgat lb HGR
    go_wp2_with fail
    go_loopw [9, 31] (fun rv iv wr => RgI (colsOf zs) bys aggs R wb rv iv wr) (fun _ i _ => R.length - (intOf i).toNat)
    case atStart => exact HI0.out
    case round =>
      obtain ⟨k, T, tn, tc, rs, rfl, rfl, hk, hnk, hmap, hon, lat⟩ := hrel
      have HMAP := Lib.hid hmap
      have HON := Lib.hid hon
      have HLAT := Lib.hid lat
      have HNK := Lib.hid hnk
      have hn20 : tn ≤ 20 := by omega
      clear HI0 hmap hon hnk
      by_cases hlt : k < R.length
      · obtain ⟨rb, ro, ga, gcc, hRA, cg, hgp⟩ := (HGA.out.later lat).get k hlt
        subst hRA
        have HGM := Lib.hid (HMEM.out.1 _ (List.getElem_mem hlt))
        have HPSL := Lib.hid (HROWL.out _ (List.getElem_mem hlt))
        have HRK := Lib.hid (show R.take (k + 1) = R.take k ++ [R[k]] from List.take_succ_eq_append_getElem hlt)
        have HMOK := Lib.hid (fun (v : List Val3) (h : rowE (colsOf zs) bys aggs R[k] = .ok v) => mapE_ok (f := rowE (colsOf zs) bys aggs) hlt HMAP.out h)
        have HMNO := Lib.hid (fun (n : Int) (h : rowE (colsOf zs) bys aggs R[k] = .error n) => mapE_no (f := rowE (colsOf zs) bys aggs) hlt HMAP.out h)
        generalize R[k] = ps at cg hgp HGM HPSL HMOK HMNO
        clear HRK
        obtain ⟨ws, hws⟩ : ∃ x, x = wr := ⟨_, rfl⟩
        subst hws
        have HGP := Lib.hid hgp
        have HSW := Lib.hid (HS.out.later (HLB.out.trans lat))
        have HRW := Lib.hid (HR.out.later (HLB.out.trans lat))
        have HBW := Lib.hid (HB.out.later (HLB.out.trans lat))
        have HGW := Lib.hid (HG.out.later (HLB.out.trans lat))
        have hpsl : ps.length ≤ 20 := by have := HPSL.out; omega
        obtain ⟨p0, hp0⟩ : ∃ p0, ps.getD 0 0 = p0 := ⟨_, rfl⟩
        have HJ0 := Lib.hid (R2I.mk (F := fun j _ xs => xs = (bys.take j).map (fun c => cellAt (colsOf zs) c p0)) (M := bys.length) (N0 := 0) (ws := ws) (wr := ws) 0 0 none 0 0 [] rfl (Nat.zero_le _) rfl rfl (ownG_nil _ _ _ _) (fun _ => rfl) (Later.refl _))
        clear hgp lat
        go_wp2_with fail
        go_loopw [12, 38] (fun rv iv wr => R2I (fun j _ xs => xs = (bys.take j).map (fun c => cellAt (colsOf zs) c p0)) bys.length 0 ws rv iv wr) (fun _ i _ => bys.length - (intOf i).toNat)
        case atStart => exact HJ0.out
        case round =>
          obtain ⟨j, Q, n, qc, xs, rfl, rfl, hj, hnj, hxs, hown, hnil, lat⟩ := hrel
          have HOWN := Lib.hid hown
          have HNIL := Lib.hid hnil
          have HXS := Lib.hid hxs
          have HNJ := Lib.hid hnj
          have HL2 := Lib.hid lat
          have hn1 : n ≤ 1000 := by omega
          clear HJ0 hown hnil hxs hnj
          by_cases hltj : j < bys.length
          · obtain ⟨bb, bo, hBA, cb⟩ := HBW.out.iin j hltj
            subst hBA
            have hcin := HOK.out.1 _ (List.getElem_mem hltj)
            have HXN := Lib.hid (show (bys.take (j + 1)).map (fun c => cellAt (colsOf zs) c p0) = xs ++ [cellAt (colsOf zs) bys[j] p0] from by
              rw [List.take_succ_eq_append_getElem hltj, List.map_append, ← HXS.out]; rfl)
            generalize bys[j] = cc at cb hcin HXN
            obtain ⟨ci, rfl⟩ : ∃ q : Nat, cc = (q : Int) := ⟨cc.toNat, by omega⟩
            have hci : ci < zs.length := by omega
            have hciz : (ci : Int) < (zs.length : Int) := by omega
            have hne : ps ≠ [] := HGM.out.1 (fun e => by rw [e] at hltj; simp at hltj)
            have hp1 : 0 < ps.length := List.length_pos_iff.2 hne
            obtain ⟨pb, po, hPA, cp⟩ := HGP.out.pin 0 hp1
            subst hPA
            rw [Nat.add_zero] at cp
            have hgd : ps[0] = p0 := by rw [← hp0]; exact (getD_at hp1).symm
            rw [hgd] at cp
            have hpN := HGM.out.2 p0 (by rw [← hgd]; exact List.getElem_mem hp1)
            have hpl : p0 < zs[ci].l.length := Nat.lt_of_lt_of_le hpN (heightC_le (List.mem_map.2 ⟨_, List.getElem_mem hci, rfl⟩))
            rw [cellAt_get zs ci p0 hci hpl] at HXN
            obtain ⟨tb, to_, hTA, ck, hcol, _, _, _⟩ := HRW.out.get ci hci
            subst hTA
            obtain ⟨vb, vo, hVA, c0, c1, c2⟩ := hcol.val3 p0 hpl
            rw [hVA] at ck
            have hpz : (p0 : Int) < (zs[ci].l.length : Int) := by omega
            have hpz1 : (0 : Int) < (ps.length : Int) := by omega
            have HX3 := Lib.hid (show zs[ci].l[p0] = (zs[ci].l[p0].1, zs[ci].l[p0].2.1, zs[ci].l[p0].2.2) from rfl)
            rw [HX3.out] at HXN
            clear HX3
            generalize zs[ci].l[p0].1 = t at c0 HXN
            generalize zs[ci].l[p0].2.1 = i at c1 HXN
            generalize zs[ci].l[p0].2.2 = s at c2 HXN
            clear hcol hVA hpl
            generalize zs[ci].l.length = ln at ck hpz
            generalize zs[ci].c = lc at ck
            have HF1 := Lib.hid ck
            have HF2 := Lib.hid cp
            have HF3 := Lib.hid c0
            have HF4 := Lib.hid c1
            have HF5 := Lib.hid c2
            have cb := lat.cell cb
            clear ck cp c0 c1 c2 hgd hne lat
            go_wp2_with fail
            refine wp_region_K (S := fun W : World => Later ws W) (R := fun a b => a = b) (fun _ => rfl) (by kernel_rfl) ?_
            have hS : Later ws wr.drew := HL2.out.drew
            have HOD := Lib.hid (own_later HOWN.out (Later.refl wr).drew)
            obtain ⟨wd, hwd⟩ : ∃ x, wr.drew = x := ⟨_, rfl⟩
            rw [hwd] at hS HOD ⊢
            clear hwd
            refine wpAnyK_take (fun _ => rfl) (fun _ _ _ h k => h.trans k) (fun _ _ h k => k ▸ h) (i := 0) (oi := { dst := some 42, op := _, type := _, pos := _, after := _, guard := _ }) (v := ?_) rfl (by kernel_rfl) (by kernel_rfl) (by kernel_rfl) (fun _ _ _ h => h) (Or.inl (Or.inl ⟨by rfl, ?_⟩)) hS ?_
            rotate_left
            focus ((intro w hSw; have f1 := hSw.cell HF1.out; have f2 := hSw.cell HF2.out; have f3 := hSw.cell HF3.out; have f4 := hSw.cell HF4.out; have f5 := hSw.cell HF5.out; (try dsimp only at hSw); go_simp); (try with_reducible rfl))
            intro wq' hwq
            subst hwq
            (try simp only [Act.put, List.setIfInBounds_toArray, List.set_cons_zero, List.set_cons_succ])
            refine wpAnyK_take (fun _ => rfl) (fun _ _ _ h k => h.trans k) (fun _ _ h k => k ▸ h) (i := 1) (oi := { dst := some 43, op := _, type := _, pos := _, after := _, guard := _ }) (v := ?_) rfl (by kernel_rfl) (by kernel_rfl) (by kernel_rfl) (fun _ _ _ h => h) (Or.inl (Or.inl ⟨by rfl, ?_⟩)) hS ?_
            rotate_left
            focus ((intro w hSw; have f1 := hSw.cell HF1.out; have f2 := hSw.cell HF2.out; have f3 := hSw.cell HF3.out; have f4 := hSw.cell HF4.out; have f5 := hSw.cell HF5.out; (try dsimp only at hSw); go_simp); (try with_reducible rfl))
            intro wq' hwq
            subst hwq
            (try simp only [Act.put, List.setIfInBounds_toArray, List.set_cons_zero, List.set_cons_succ])
            refine wpAnyK_take (fun _ => rfl) (fun _ _ _ h k => h.trans k) (fun _ _ h k => k ▸ h) (i := 2) (oi := { dst := some 44, op := _, type := _, pos := _, after := _, guard := _ }) (v := ?_) rfl (by kernel_rfl) (by kernel_rfl) (by kernel_rfl) (fun _ _ _ h => h) (Or.inl (Or.inl ⟨by rfl, ?_⟩)) hS ?_
            rotate_left
            focus ((intro w hSw; have f1 := hSw.cell HF1.out; have f2 := hSw.cell HF2.out; have f3 := hSw.cell HF3.out; have f4 := hSw.cell HF4.out; have f5 := hSw.cell HF5.out; (try dsimp only at hSw); go_simp); (try with_reducible rfl))
            intro wq' hwq
            subst hwq
            (try simp only [Act.put, List.setIfInBounds_toArray, List.set_cons_zero, List.set_cons_succ])
            refine wpAnyK_take (fun _ => rfl) (fun _ _ _ h k => h.trans k) (fun _ _ h k => k ▸ h) (i := 3) (oi := { dst := some 45, op := _, type := _, pos := _, after := _, guard := _ }) (v := ?_) rfl (by kernel_rfl) (by kernel_rfl) (by kernel_rfl) (fun _ _ _ h => h) (Or.inl (Or.inl ⟨by rfl, ?_⟩)) hS ?_
            rotate_left
            focus ((intro w hSw; have f1 := hSw.cell HF1.out; have f2 := hSw.cell HF2.out; have f3 := hSw.cell HF3.out; have f4 := hSw.cell HF4.out; have f5 := hSw.cell HF5.out; (try dsimp only at hSw); go_simp); (try with_reducible rfl))
            intro wq' hwq
            subst hwq
            (try simp only [Act.put, List.setIfInBounds_toArray, List.set_cons_zero, List.set_cons_succ])
            refine wpAnyK_take (fun _ => rfl) (fun _ _ _ h k => h.trans k) (fun _ _ h k => k ▸ h) (i := 4) (oi := { dst := some 46, op := _, type := _, pos := _, after := _, guard := _ }) (v := ?_) rfl (by kernel_rfl) (by kernel_rfl) (by kernel_rfl) (fun _ _ _ h => h) (Or.inl (Or.inl ⟨by rfl, ?_⟩)) hS ?_
            rotate_left
            focus ((intro w hSw; have f1 := hSw.cell HF1.out; have f2 := hSw.cell HF2.out; have f3 := hSw.cell HF3.out; have f4 := hSw.cell HF4.out; have f5 := hSw.cell HF5.out; (try dsimp only at hSw); go_simp); (try with_reducible rfl))
            intro wq' hwq
            subst hwq
            (try simp only [Act.put, List.setIfInBounds_toArray, List.set_cons_zero, List.set_cons_succ])
            refine wpAnyK_take (fun _ => rfl) (fun _ _ _ h k => h.trans k) (fun _ _ h k => k ▸ h) (i := 5) (oi := { dst := some 47, op := _, type := _, pos := _, after := _, guard := _ }) (v := ?_) rfl (by kernel_rfl) (by kernel_rfl) (by kernel_rfl) (fun _ _ _ h => h) (Or.inl (Or.inl ⟨by rfl, ?_⟩)) hS ?_
            rotate_left
            focus ((intro w hSw; have f1 := hSw.cell HF1.out; have f2 := hSw.cell HF2.out; have f3 := hSw.cell HF3.out; have f4 := hSw.cell HF4.out; have f5 := hSw.cell HF5.out; (try dsimp only at hSw); go_simp); (try with_reducible rfl))
            intro wq' hwq
            subst hwq
            (try simp only [Act.put, List.setIfInBounds_toArray, List.set_cons_zero, List.set_cons_succ])
            refine wpAnyK_take (fun _ => rfl) (fun _ _ _ h k => h.trans k) (fun _ _ h k => k ▸ h) (i := 6) (oi := { dst := some 48, op := _, type := _, pos := _, after := _, guard := _ }) (v := ?_) rfl (by kernel_rfl) (by kernel_rfl) (by kernel_rfl) (fun _ _ _ h => h) (Or.inl (Or.inl ⟨by rfl, ?_⟩)) hS ?_
            rotate_left
            focus ((intro w hSw; have f1 := hSw.cell HF1.out; have f2 := hSw.cell HF2.out; have f3 := hSw.cell HF3.out; have f4 := hSw.cell HF4.out; have f5 := hSw.cell HF5.out; (try dsimp only at hSw); go_simp); (try with_reducible rfl))
            intro wq' hwq
            subst hwq
            (try simp only [Act.put, List.setIfInBounds_toArray, List.set_cons_zero, List.set_cons_succ])
            refine wpAnyK_take (fun _ => rfl) (fun _ _ _ h k => h.trans k) (fun _ _ h k => k ▸ h) (i := 7) (oi := { dst := some 49, op := _, type := _, pos := _, after := _, guard := _ }) (v := ?_) rfl (by kernel_rfl) (by kernel_rfl) (by kernel_rfl) (fun _ _ _ h => h) (Or.inl (Or.inl ⟨by rfl, ?_⟩)) hS ?_
            rotate_left
            focus ((intro w hSw; have f1 := hSw.cell HF1.out; have f2 := hSw.cell HF2.out; have f3 := hSw.cell HF3.out; have f4 := hSw.cell HF4.out; have f5 := hSw.cell HF5.out; (try dsimp only at hSw); go_simp); (try with_reducible rfl))
            intro wq' hwq
            subst hwq
            (try simp only [Act.put, List.setIfInBounds_toArray, List.set_cons_zero, List.set_cons_succ])
            refine wpAnyK_take (fun _ => rfl) (fun _ _ _ h k => h.trans k) (fun _ _ h k => k ▸ h) (i := 8) (oi := { dst := some 50, op := _, type := _, pos := _, after := _, guard := _ }) (v := ?_) rfl (by kernel_rfl) (by kernel_rfl) (by kernel_rfl) (fun _ _ _ h => h) (Or.inl (Or.inl ⟨by rfl, ?_⟩)) hS ?_
            rotate_left
            focus ((intro w hSw; have f1 := hSw.cell HF1.out; have f2 := hSw.cell HF2.out; have f3 := hSw.cell HF3.out; have f4 := hSw.cell HF4.out; have f5 := hSw.cell HF5.out; (try dsimp only at hSw); go_simp); (try with_reducible rfl))
            intro wq' hwq
            subst hwq
            (try simp only [Act.put, List.setIfInBounds_toArray, List.set_cons_zero, List.set_cons_succ])
            refine wpAnyK_take (fun _ => rfl) (fun _ _ _ h k => h.trans k) (fun _ _ h k => k ▸ h) (i := 9) (oi := { dst := some 51, op := _, type := _, pos := _, after := _, guard := _ }) (v := ?_) rfl (by kernel_rfl) (by kernel_rfl) (by kernel_rfl) (fun _ _ _ h => h) (Or.inl (Or.inl ⟨by rfl, ?_⟩)) hS ?_
            rotate_left
            focus ((intro w hSw; have f1 := hSw.cell HF1.out; have f2 := hSw.cell HF2.out; have f3 := hSw.cell HF3.out; have f4 := hSw.cell HF4.out; have f5 := hSw.cell HF5.out; (try dsimp only at hSw); go_simp); (try with_reducible rfl))
            intro wq' hwq
            subst hwq
            (try simp only [Act.put, List.setIfInBounds_toArray, List.set_cons_zero, List.set_cons_succ])
            refine wpAnyK_all (rs := [10]) (by kernel_rfl) (by simp) (fun i hi => ?_)
            simp only [List.mem_cons, List.not_mem_nil, or_false] at hi
            subst hi
            refine stepK (o := { dst := some 52, op := _, type := _, pos := _, after := _, guard := _ }) rfl (fun K hK => ?_)
            go_simp
            obtain ⟨gl, hgl⟩ : ∃ x, wd.heap.size = x := ⟨_, rfl⟩
            obtain ⟨wl, hwl⟩ : ∃ x, wd.alloc (.cells #[.int .i64 t, .int .i64 i, .string s] 26) = x := ⟨_, rfl⟩
            have ll : Later wd wl := hwl ▸ Later.new _ _
            have HLT := Lib.hid (show Has wl (some ⟨gl, 0, none⟩) (fl [(t, i, s)]) from hwl ▸ (Blk.new wd [Value.int .i64 t, Value.int .i64 i, Value.string s].toArray 26 gl hgl.symm).has)
            have HOL := Lib.hid (own_later HOD.out ll)
            try rw [hgl]
            rw [hwl]
            replace hS : Later ws wl := hS.trans ll
            refine hK _ _ hS ?_
            clear hwl hgl ll HOD
            intro wq' hwq
            subst hwq
            clear hK
            (try simp only [Act.put, List.setIfInBounds_toArray, List.set_cons_zero, List.set_cons_succ])
            refine wpAnyK_all (rs := [11]) (by kernel_rfl) (by simp) (fun i hi => ?_)
            simp only [List.mem_cons, List.not_mem_nil, or_false] at hi
            subst hi
            refine stepK (o := { dst := some 53, op := _, type := _, pos := _, after := _, guard := _ }) rfl (fun K hK => ?_)
            refine step_append_n rfl (.tmp 42) (.tmp 52) 56 rfl ws.heap.size 26 _ 3 32 Tryd.underlying56 info_v rfl (by decide) _ n _ rfl HOL.out (some ⟨gl, 0, none⟩) 1 1 (fl [(t, i, s)]) rfl HLT.out rfl (fun h => by cases h) (fl_one _) (by unfold maxLen; omega) (by omega) hS.size ?_
            rintro A' c' wz ho hgr hbl hnl
            have HO2 := Lib.hid ho
            have HN2 := Lib.hid hnl
            replace hS : Later ws wz := Later.of (hS.below.trans hbl)
            refine hK _ _ hS ?_
            clear ho hgr hbl hnl HLT HOL
            intro wq' hwq
            subst hwq
            clear hK
            (try simp only [Act.put, List.setIfInBounds_toArray, List.set_cons_zero, List.set_cons_succ])
            refine wpAnyK_take (fun _ => rfl) (fun _ _ _ h k => h.trans k) (fun _ _ h k => k ▸ h) (i := 12) (oi := { dst := some 12, op := _, type := _, pos := _, after := _, guard := _ }) (v := ?_) rfl (by kernel_rfl) (by kernel_rfl) (by kernel_rfl) (fun _ _ _ h => h) (Or.inl (Or.inl ⟨by rfl, ?_⟩)) hS ?_
            rotate_left
            focus ((intro w hSw; have f1 := hSw.cell HF1.out; have f2 := hSw.cell HF2.out; have f3 := hSw.cell HF3.out; have f4 := hSw.cell HF4.out; have f5 := hSw.cell HF5.out; (try dsimp only at hSw); go_simp); (try with_reducible rfl))
            intro wq' hwq
            subst hwq
            (try simp only [Act.put, List.setIfInBounds_toArray, List.set_cons_zero, List.set_cons_succ])
            refine wpAnyK_done (by kernel_rfl) ?_ _
            have HLZ := Lib.hid hS
            clear hS
            go_wp2_with fail
            go_roundw
            case rel =>
              refine R2I.mk _ (j + 1) _ _ _ (xs ++ [(t, i, s)]) ?_ hltj ?_ HXN.out.symm ?_ HN2.out HLZ.out
              · omega
              · have := HNJ.out; omega
              · rw [fl_append]; exact HO2.out
            case measure => simp [intOf]; omega
          · have hjb : j = bys.length := by omega
            obtain ⟨heads, hheads⟩ : ∃ h, bys.map (fun c => cellAt (colsOf zs) c p0) = h := ⟨_, rfl⟩
            have HHD := Lib.hid hheads
            have HXF := Lib.hid (show xs = heads from by rw [HXS.out, hjb, List.take_length, hheads])
            have HRE := Lib.hid (fun vs h => show rowE (colsOf zs) bys aggs ps = .ok (heads ++ vs) from by rw [rowE_ok (vs := vs) h, hp0, hheads])
            have HK0 := Lib.hid (R2I.mk (F := fun j _ xs => ∃ vs, xs = heads ++ vs ∧ mapE (fun a : Int × Int => ofA (colsOf zs) ps a.1 a.2) (aggs.take j) = .ok vs) (M := aggs.length) (N0 := bys.length) (ws := ws) (wr := wr) 0 0 Q n qc xs rfl (Nat.zero_le _) (by have := HNJ.out; omega) ⟨[], by rw [HXF.out, List.append_nil], rfl⟩ HOWN.out HNIL.out lat)
            clear hheads hjb HXS HOWN HNIL HNJ HL2 HXF lat hn1
            go_wp2_with fail
            go_loopw [12, 57] (fun rv iv wr => R2I (fun j _ xs => ∃ vs, xs = heads ++ vs ∧ mapE (fun a : Int × Int => ofA (colsOf zs) ps a.1 a.2) (aggs.take j) = .ok vs) aggs.length bys.length ws rv iv wr) (fun _ i _ => aggs.length - (intOf i).toNat)
            case atStart => exact HK0.out
            case round =>
              obtain ⟨m, Q, n, qc, xs, rfl, rfl, hm, hnm, ⟨vs, hxs, hvs⟩, hown, hnil, lat⟩ := hrel
              have HOWN := Lib.hid hown
              have HNIL := Lib.hid hnil
              have HXS := Lib.hid hxs
              have HVS := Lib.hid hvs
              have HNM := Lib.hid hnm
              have HL2 := Lib.hid lat
              have hn1 : n ≤ 2000 := by omega
              clear HK0 hown hnil hxs hvs hnm
              by_cases hltm : m < aggs.length
              · obtain ⟨ab, ao, hGA, c0, c1⟩ := (HGW.out.later lat).fa m hltm
                subst hGA
                have haok := HOK.out.2 _ (List.getElem_mem hltm)
                have HMA := Lib.hid (fun (v : Val3) (h : ofA (colsOf zs) ps aggs[m].1 aggs[m].2 = .ok v) => mapE_ok (f := fun a : Int × Int => ofA (colsOf zs) ps a.1 a.2) hltm HVS.out h)
                have HMN := Lib.hid (fun (e : Int) (h : ofA (colsOf zs) ps aggs[m].1 aggs[m].2 = .error e) => mapE_no (f := fun a : Int × Int => ofA (colsOf zs) ps a.1 a.2) hltm HVS.out h)
                obtain ⟨k1, k2, k3, k4⟩ := haok
                generalize aggs[m].1 = op at c0 HMA HMN k1 k2 k4
                generalize aggs[m].2 = at_ at c1 HMA HMN k3 k4
                obtain ⟨gv, hgv⟩ : ∃ g, wr.heap.size = g := ⟨_, rfl⟩
                obtain ⟨w1, hw1⟩ : ∃ x, wr.alloc (.cells #[.int .i64 op, .int .i64 at_] 65) = x := ⟨_, rfl⟩
                have BV := Blk.new wr #[.int .i64 op, .int .i64 at_] 65 gv hgv.symm
                have HLW := Lib.hid (lat.alloc (.cells #[.int .i64 op, .int .i64 at_] 65))
                have HOA := Lib.hid (own_later HOWN.out (Later.new wr (.cells #[.int .i64 op, .int .i64 at_] 65)))
                rw [hw1] at BV HLW HOA
                have v0 := BV.cell 0 _ rfl
                have v1 := BV.cell 1 _ rfl
                have HOF := Lib.hid (of_any A ga zs.length c ps.length gcc zs ps op at_ a0 a1 a2 w1 (HSW.out.later HLW.out) rfl hl (HRW.out.later HLW.out) rfl (by omega) (HGP.out.later HLW.out) (fun p hp s hs => Nat.lt_of_lt_of_le (HGM.out.2 p hp) (heightC_le (List.mem_map.2 ⟨s, hs, rfl⟩))) H64.out ⟨k1, k2⟩ k3)
                have HSZW := Lib.hid (show w.heap.size ≤ w1.heap.size from ((HLB.out.trans HLAT.out).trans HLW.out).size)
                clear BV lat HOWN k1 k2 k3 k4
                go_wp2_with fail
                refine HOF.out.mono ?_
                rintro e w2 (⟨⟨x1, x2, x3⟩, ho, rfl, l2⟩ | ⟨nn, v, ho, hnn, rfl, hv, l2⟩)
                · have HMA2 := Lib.hid (HMA.out _ ho)
                  dsimp only
                  obtain ⟨gx, hgx⟩ : ∃ g, w2.heap.size = g := ⟨_, rfl⟩
                  obtain ⟨w3, hw3⟩ : ∃ x, w2.alloc (.cells #[.int .i64 x1, .int .i64 x2, .string x3] 26) = x := ⟨_, rfl⟩
                  have BX := Blk.new w2 #[.int .i64 x1, .int .i64 x2, .string x3] 26 gx hgx.symm
                  have HLX := Lib.hid ((HLW.out.trans l2).alloc (.cells #[.int .i64 x1, .int .i64 x2, .string x3] 26))
                  have HOX := Lib.hid (own_later (own_later HOA.out l2) (Later.new w2 (.cells #[.int .i64 x1, .int .i64 x2, .string x3] 26)))
                  rw [hw3] at BX HLX HOX
                  have q0 := BX.cell 0 _ rfl
                  have q1 := BX.cell 1 _ rfl
                  have q2 := BX.cell 2 _ rfl
                  have HBK := Lib.hid (fun (wz : World) => Blk.new wz #[.int .i64 x1, .int .i64 x2, .string x3] 26 wz.heap.size rfl)
                  have HOB := Lib.hid (fun (o : Obj) => own_later HOX.out (Later.new w3 o))
                  have hs1 := HLX.out.size
                  clear BX l2 ho HOF HOA HMA HMN v0 v1
                  go_wp2_with (at_builtin; refine wpList_append_g _ rfl (.tmp 76) (.tmp 78) 56 rfl ws.heap.size 26 _ 3 32 Tryd.underlying56 info_v rfl (by decide) _ n _ rfl (HOB.out _) _ 1 1 (fl [(x1, x2, x3)]) rfl (HBK.out w3).has rfl (by intro h; cases h) (fl_one _) (by unfold maxLen; omega) (by omega) (by simp; omega) ?_; rintro A' c' wq hO _ hbel hn2; have HO2 := Lib.hid hO; have HN2 := Lib.hid hn2; have HL3 := Lib.hid (Later.of ((HLX.out.alloc _).below.trans hbel)); clear hO hn2 hbel)
                  go_roundw
                  case rel =>
                    refine R2I.mk _ (m + 1) _ _ _ (xs ++ [(x1, x2, x3)]) ?_ hltm ?_ ⟨vs ++ [(x1, x2, x3)], ?_, HMA2.out⟩ ?_ HN2.out HL3.out
                    · omega
                    · have := HNM.out; omega
                    · rw [HXS.out, List.append_assoc]
                    · rw [fl_append]; exact HO2.out
                  case measure => simp [intOf]; omega
                · have HMN2 := Lib.hid (HMNO.out nn (rowE_no (HMN.out _ ho)))
                  have HNN := Lib.hid hnn
                  have l3 : Later w2 (w2.alloc (.cells #[.int .i64 0, .int .i64 0, .string ⟨#[]⟩] 26)) := Later.new _ _
                  have HHV := Lib.hid ((hv.later l3).mono HSZW.out)
                  have HLX := Lib.hid ((HLW.out.trans l2).trans l3)
                  have HE1 := Lib.hid (fun (s : ByteArray) (p : Int) => at_e1 s p w.heap.size 0 v _ (w2.alloc (.cells #[.int .i64 0, .int .i64 0, .string ⟨#[]⟩] 26)) (Nat.le_trans HSZW.out (Nat.le_trans l2.size l3.size)) HHV.out)
                  obtain ⟨p, rfl, _⟩ := hv
                  have heq := run_eql_iface_nil (P := Tryd.prog) (w := (w2.alloc (.cells #[.int .i64 0, .int .i64 0, .string ⟨#[]⟩] 26))) 89 hif 144 (.pointer (some ⟨p, 0, none⟩))
                  have HSZ3 := Lib.hid (Nat.le_trans HSZW.out (Nat.le_trans l2.size l3.size))
                  clear l2 l3 ho hnn HOF HOA HMA HMN v0 v1 HHV
                  go_wp2_with fail
                  refine (HE1.out _ _).mono ?_
                  rintro e w4 ⟨v4, rfl, hv4, l4⟩
                  have HE2 := Lib.hid (fun (s : ByteArray) (p : Int) => at_e1 s p w.heap.size 1 v4 _ w4 (Nat.le_trans HSZ3.out l4.size) hv4)
                  have HLX2 := Lib.hid (HLX.out.trans l4)
                  clear HE1 hv4 l4
                  go_wp2_with fail
                  refine (HE2.out _ _).mono ?_
                  rintro e w5 ⟨v5, rfl, hv5, l5⟩
                  have HV5 := Lib.hid hv5
                  have HLX3 := Lib.hid (HLX2.out.trans l5)
                  clear HE2 hv5 l5
                  go_wp2_with fail
                  go_ret2
                  exact .inr ⟨HOK.out, R, HGO.out, .inr ⟨nn, v5, HMN2.out, HNN.out, rfl, HV5.out, (HLB.out.trans HLAT.out).trans HLX3.out⟩⟩
              · have HRW2 := Lib.hid (show rowE (colsOf zs) bys aggs ps = .ok xs from by
                  have h1 := HVS.out
                  rw [show m = aggs.length by omega, List.take_length] at h1
                  rw [HRE.out vs h1, HXS.out])
                have HMK := Lib.hid (HMOK.out _ HRW2.out)
                have HXL := Lib.hid (own_len HOWN.out)
                have HOKX := Lib.hid (show (⟨Q, qc, xs⟩ : SlV).okX (Value.slice T tn tc).ownBlock wr from SlV.okX.own HOWN.out (own_len HOWN.out) HNIL.out fun g hg => (HON.out.2.1.lt g hg).2)
                have HRL := Lib.hid (show (⟨Q, qc, xs⟩ : SlV).v = .slice Q n qc from by rw [SlV.v_eq, ← HXL.out])
                have HON2 := Lib.hid (HON.out.later lat)
                have HLW := Lib.hid (HLAT.out.trans lat)
                have HBK := Lib.hid (fun (wz : World) => Blk.new wz #[.slice Q n qc] 56 wz.heap.size rfl)
                have HOA := Lib.hid (fun (o : Obj) => HON2.out.later (Later.new wr o))
                have HOKA := Lib.hid (fun (o : Obj) => HOKX.out.later (Later.new wr o))
                have HSZ := Lib.hid (show wb.heap.size ≤ wr.heap.size from HLW.out.size)
                clear lat HVS HXS HOWN
                go_wp2_with (at_builtin; refine wpList_append_x _ rfl (.tmp 81) (.tmp 83) 67 rfl wb.heap.size 56 _ 1 24 Tryd.underlying67 info_row rfl (by decide) _ tn _ rfl (HOA.out _).2.1 _ 0 1 1 [.slice Q n qc] rfl (HBK.out wr).has rfl (by intro u hu; rw [List.mem_singleton] at hu; subst hu; rfl) (by unfold maxLen; omega) (by omega) (by have := HSZ.out; simp; omega) ?_; rintro A' c' wq hO hgr hbel hat hn2; have HO2 := Lib.hid (RowsOn.more (s := ⟨Q, qc, xs⟩) (HOA.out _) (HOKA.out _) (by rw [HRL.out]; exact hO) hgr hat hn2); have HL2 := Lib.hid (Later.of ((HLW.out.alloc _).below.trans hbel)); clear hO hn2 hbel hgr hat)
                go_roundw
                case rel =>
                  refine RgI.mk _ (k + 1) _ _ _ (rs ++ [⟨Q, qc, xs⟩]) ?_ hlt ?_ ?_ HO2.out HL2.out
                  · omega
                  · have := HNK.out; omega
                  · rw [List.map_append]; exact HMK.out
                case measure => simp [intOf]; omega
      · have HF := Lib.hid (show runE (colsOf zs) bys aggs R = .ok (rs.map (·.l)) from by
          have := HMAP.out
          rwa [show k = R.length by omega, List.take_length] at this)
        have hat := HON.out.at_
        have HAT := Lib.hid hat
        clear hat lat
        go_wp2_with fail
        go_ret2
        exact .inr ⟨HOK.out, R, HGO.out, .inl ⟨T, tc, rs, by rw [← HON.out.1]; rfl, HF.out, HAT.out.1, by rw [← HON.out.1]; exact HAT.out.2.1, HAT.out.2.2, HLB.out.trans HLAT.out⟩⟩
end Go.Proofs.YtkdpjocglfephaaDoor
