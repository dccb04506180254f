
import Derived.Test.YtkdpjocglfephaaDoorPredAM
import Derived.Test.YtkdpjocglfephaaDoorRefPd4
import Derived.Test.YtkdpjocglfephaaDoorRefPd5
import Derived.Test.YtkdpjocglfephaaDoorPlayQ
import Derived.Test.YtkdpjocglfephaaDoorPlayB
import Derived.Test.YtkdpjocglfephaaDoorPredB
import Derived.Test.YtkdpjocglfephaaDoorBase
import Derived.Test.YtkdpjocglfephaaDoorBatR
import Derived.Test.YtkdpjocglfephaaDoorPlayO
import Derived.Test.YtkdpjocglfephaaDoorPlayN
import Derived.Test.YtkdpjocglfephaaDoorPlayS
import Derived.Test.YtkdpjocglfephaaDoorPlayV
import Derived.Test.YtkdpjocglfephaaDoorPlayR
import Derived.Test.YtkdpjocglfephaaDoorZoneM
import Derived.Test.YtkdpjocglfephaaDoorRefOfP
import Derived.Deep.CutBlock
import Derived.Deep.CutRange
import Derived.WalkKit
import Derived.LaidEql
import Derived.Stop.Asserts
import Derived.Stop.IfaceNil
import Derived.RowKitTokens
import Derived.Laws.OwnMore
import Derived.Laws.BytesArg
import Derived.Laws.Rows
import Derived.Deep.AppendLies
import Derived.Deep.Draws
import Derived.Test.YtkdpjocglfephaaDoorChecked
import Derived.Deep.OwnRows
import Derived.Lib.Hide
import Derived.Deep.Quiet
import Derived.Laws.AppendOwnNone
import Derived.Lib.Strings
import Derived.Outline
import Derived.WalkLawsBesides
import Derived.WalkSpells
import Derived.PlainAid
import Derived.Deep.QuietTactic
import Derived.BigQuiet
import Derived.RegionTactic
import Derived.BigRegion
import Derived.Handy
import Derived.Laws.BitsAllLaws
import Derived.Deep.RegionWith
import Derived.Lib.AppendStr
import Derived.Deep.RegionLaw
import Derived.Maps.AppendAt
import Derived.OpenShut
import Derived.WideShapes
import Derived.ChangeArms
import Derived.Deep.Slices
import Derived.Sort.Grow
import Derived.OrdersHeld
import Derived.Laws.BitsLemmas
import Derived.Laws.Bits64
import Derived.WalkSmall
import Derived.Lib.Bytealg
import Derived.Deep.SlicePairs
import Derived.Deep.RegionHeld3
import Derived.Test.YtkdpjocglfephaaDoorShelf
import Derived.Shelf.Abstract
/- The walk of PredAll. (tools/gen_predall.py) -/










namespace Go.Proofs.YtkdpjocglfephaaDoor
open Go.RowKit
set_option linter.unusedVariables false

/-- The lots of tests, as they lie. -/
def LotsAt (W : World) (b : Nat) (L : List (List Tst)) : Prop := ∀ j (h : j < L.length), ∃ (A : Option Addr) (c : Nat), W.cell? ⟨b, j, none⟩ = some (.slice A L[j].length c) ∧ Has W A (ft L[j])
theorem LotsAt.later {W W' : World} {b : Nat} {L : List (List Tst)} (h : LotsAt W b L) (l : Later W W') : LotsAt W' b L := fun j hj => by
  obtain ⟨A, c, h1, h2⟩ := h j hj
  exact ⟨A, c, l.cell h1, h2.later l⟩
theorem lots_mk {W : World} {b : Nat} {TT : TypeId} {A0 A1 A2 A3 : Option Addr} {c0 c1 c2 c3 n0 n1 n2 n3 : Nat} {l0 l1 l2 l3 : List Tst} (h : Blk W b #[.slice A0 n0 c0, .slice A1 n1 c1, .slice A2 n2 c2, .slice A3 n3 c3] TT)
    (e0 : n0 = l0.length) (e1 : n1 = l1.length) (e2 : n2 = l2.length) (e3 : n3 = l3.length) (h0 : Has W A0 (ft l0)) (h1 : Has W A1 (ft l1)) (h2 : Has W A2 (ft l2)) (h3 : Has W A3 (ft l3)) : LotsAt W b [l0, l1, l2, l3] := by
  subst e0 e1 e2 e3
  intro j hj
  match j, hj with
  | 0, _ => exact ⟨A0, c0, h.cell 0 _ rfl, h0⟩
  | 1, _ => exact ⟨A1, c1, h.cell 1 _ rfl, h1⟩
  | 2, _ => exact ⟨A2, c2, h.cell 2 _ rfl, h2⟩
  | 3, _ => exact ⟨A3, c3, h.cell 3 _ rfl, h3⟩
theorem HasX.old {w W : World} {A : Option Addr} {xs : List Value} {g : Nat} (h : Has w A xs) (hg : w.heap.size ≤ g) (l : Later w W) : HasX (some g) W A xs := by
  rcases h with h | ⟨b, off, hA, hb, hc⟩
  · exact .inl h
  · exact .inr ⟨b, off, hA, Nat.lt_of_lt_of_le hb l.size, (fun e => by injection e with e; omega), fun k v hv => l.cell (hc k v hv)⟩
theorem predheight_same (l : List (List Val3)) (N : Nat) (h0 : l ≠ []) (h : ∀ x ∈ l, x.length = N) : heightC l = N := by
  have key : ∀ (r : List (List Val3)) (n : Nat), n = N → (∀ x ∈ r, x.length = N) → r.foldl (fun n x => min n x.length) n = N := by
    intro r
    induction r with
    | nil => intro n hn _; exact hn
    | cons c r ih => intro n hn hr; exact ih _ (by show min n c.length = N; rw [hr c (by simp), hn, Nat.min_self]) fun x hx => hr x (by simp [hx])
  cases l with
  | nil => exact absurd rfl h0
  | cons c r => exact key r _ (h c (by simp)) fun x hx => h x (by simp [hx])
theorem colsOf_get {zs : List SlV} {cs : List (List Val3)} (h : colsOf zs = cs) (k : Nat) (h1 : k < zs.length) (h2 : k < cs.length) : zs[k].l = cs[k] := by
  subst h
  simp [colsOf]
theorem predrow_get {cs : List (List Val3)} {k q : Nat} (h1 : q < cs.length) (h2 : k < cs[q].length) (h3 : q < (rowAt cs k).length) : (rowAt cs k)[q] = cs[q][k] := by
  simp [rowAt, List.getD_eq_getElem?_getD, List.getElem?_eq_getElem h2]
theorem fz_append (a b : List Zn) : fz (a ++ b) = fz a ++ fz b := List.flatMap_append
theorem info_zn : (Tryd.prog.info? 50).map (fun i => (i.zero, i.size, i.bytes)) = some (some (.agg #[.int .i64 0, .int .i64 0, .int .i64 0, .string ⟨#[]⟩, .int .i64 0, .int .i64 0, .string ⟨#[]⟩]), 7, 72) := by kernel_rfl
/-- Where the zones' loop stands. -/
def ZsI (cs : List (List Val3)) (W : World) (zv iv : Value) (wr : World) : Prop :=
  ∃ (k : Nat) (A : Option Addr) (c : Nat), zv = .slice A k c ∧ iv = .int .i64 k ∧ k ≤ cs.length ∧ wr.ownsRow W.heap.size 50 7 (.slice A k c) k (fz ((cs.map zoneOf).take k)) ∧ (A = none → c = 0) ∧ Later W wr
theorem ZsI.mk {cs : List (List Val3)} {W wr : World} (y : Int) (k n : Nat) (A : Option Addr) (c : Nat) (hy : y = (k : Int)) (hn : n = k) (hk : k ≤ cs.length) (ho : wr.ownsRow W.heap.size 50 7 (.slice A n c) n (fz ((cs.map zoneOf).take k))) (hnil : A = none → c = 0) (L : Later W wr) : ZsI cs W (.slice A n c) (.int .i64 y) wr := by
  subst hy hn; exact ⟨n, A, c, rfl, rfl, hk, ho, hnil, L⟩
/-- Where the row's loop stands. -/
def RwxI (row : List Val3) (W : World) (rv iv : Value) (wr : World) : Prop :=
  ∃ (k : Nat) (A : Option Addr) (c : Nat), rv = .slice A k c ∧ iv = .int .i64 k ∧ k ≤ row.length ∧ wr.ownsRow W.heap.size 26 3 (.slice A k c) k (fl (row.take k)) ∧ (A = none → c = 0) ∧ Later W wr
theorem RwxI.mk {row : List Val3} {W wr : World} (y : Int) (k n : Nat) (A : Option Addr) (c : Nat) (hy : y = (k : Int)) (hn : n = k) (hk : k ≤ row.length) (ho : wr.ownsRow W.heap.size 26 3 (.slice A n c) n (fl (row.take k))) (hnil : A = none → c = 0) (L : Later W wr) : RwxI row W (.slice A n c) (.int .i64 y) wr := by
  subst hy hn; exact ⟨n, A, c, rfl, rfl, hk, ho, hnil, L⟩
theorem fl_app (a b : List Val3) : fl (a ++ b) = fl a ++ fl b := List.flatMap_append
theorem predinfo_v : (Tryd.prog.info? 26).map (fun i => (i.zero, i.size, i.bytes)) = some (some (.agg #[.int .i64 0, .int .i64 0, .string ⟨#[]⟩]), 3, 32) := by kernel_rfl

set_option maxRecDepth 100000 in
theorem predAll_long (A A2 A3 : Option Addr) (n c n2 c2 n3 c3 : Nat) (w : World) (hg : ErrT w) (hs : S3 w) (h : ¬ (n ≤ 100 ∧ n2 ≤ 100 ∧ n3 ≤ 10)) :
    Calls Tryd.prog 3 #[.slice A n c, .slice A2 n2 c2, .slice A3 n3 c3] w fun e w' => e = .returned (.bool true) ∧ Later w w' := by
  have HB := Lib.hid (begun23_any w hg hs)
  clear hg hs
  go_enter Tryd.func3, Tryd.ntmps3
  go_wp2_with fail
  refine HB.out.mono ?_
  rintro e w1 ⟨rfl, l1⟩
  by_cases h1 : n ≤ 100
  · have d1 : decide ((100 : Int) < (n : Int)) = false := by simp; omega
    by_cases h2 : n2 ≤ 100
    · have d2 : decide ((100 : Int) < (n2 : Int)) = false := by simp; omega
      have d3 : decide ((10 : Int) < (n3 : Int)) = true := by simp; omega
      clear h
      go_wp2_with fail
      go_ret
      exact ⟨rfl, l1⟩
    · have d2 : decide ((100 : Int) < (n2 : Int)) = true := by simp; omega
      clear h
      go_wp2_with fail
      go_ret
      exact ⟨rfl, l1⟩
  · have d1 : decide ((100 : Int) < (n : Int)) = true := by simp; omega
    clear h
    go_wp2_with fail
    go_ret
    exact ⟨rfl, l1⟩

set_option maxRecDepth 100000 in
set_option maxHeartbeats 16000000 in
theorem predAll_walk (A A2 A3 : Option Addr) (n c n2 c2 c3 : Nat) (bs bs2 : List Nat) (l : List Tst) (w : World) (hg : ErrT w) (hs : S3 w) (hb : bs.length = n) (hn : n ≤ 100) (hr : Has w A (ints .u8 bs)) (h256 : ∀ x ∈ bs, x < 256) (hb2 : bs2.length = n2) (hn2 : n2 ≤ 100) (hr2 : Has w A2 (ints .u8 bs2)) (h2562 : ∀ x ∈ bs2, x < 256) (hn3 : l.length ≤ 10) (hr3 : Has w A3 (ft l)) (hnil3 : A3 = none → c3 = 0) :
    Calls Tryd.prog 3 #[.slice A n c, .slice A2 n2 c2, .slice A3 l.length c3] w fun e w' => e = .returned (.bool true) ∧ Later w w' := by
  have HB := Lib.hid (begun23_any w hg hs)
  have HGW := Lib.hid hg
  have HSW := Lib.hid hs
  have HR := Lib.hid hr
  have HR2 := Lib.hid hr2
  have HR3W := Lib.hid hr3
  have HNIL3 := Lib.hid hnil3
  have hc : PkC n bs := ⟨by omega, hb, h256⟩
  have hc2 : PkC n2 bs2 := ⟨by omega, hb2, h2562⟩
  have HCC := Lib.hid hc
  have HCC2 := Lib.hid hc2
  clear hr h256 hb hc hs hg hr2 h2562 hb2 hc2 hr3 hnil3
  go_enter Tryd.func3, Tryd.ntmps3
  go_wp2_with fail
  refine HB.out.mono ?_
  rintro e w1 ⟨rfl, l1⟩
  have HL0 := Lib.hid l1
  have HI0 := Lib.hid (show ∃ k : Nat, Value.int .i64 0 = .int .i64 k ∧ k ≤ l.length ∧ Later w1 w1 from ⟨0, rfl, Nat.zero_le _, Later.refl _⟩)
  clear l1 HB
  have hn60 : decide ((100 : Int) < (n : Int)) = false := by simp; omega
  have hn61 : decide ((100 : Int) < (n2 : Int)) = false := by simp; omega
  have hn62 : decide ((10 : Int) < (l.length : Int)) = false := by simp; omega
  go_wp2_with fail
  clear hn60 hn61 hn62
  go_loopw [7] (fun iv wr => ∃ k : Nat, iv = .int .i64 k ∧ k ≤ l.length ∧ Later w1 wr) (fun i _ => l.length - (intOf i).toNat)
  case atStart => exact HI0.out
  case round =>
    obtain ⟨k, rfl, hk, lat⟩ := hrel
    have HLAT := Lib.hid lat
    clear HI0
    by_cases hlt : k < l.length
    · obtain ⟨tb, toff, hTA, hta⟩ := (HR3W.out.later (HL0.out.trans lat)).tst k hlt
      subst hTA
      generalize l[k] = t at hta
      obtain ⟨nm, op, ⟨vt, vi, vs⟩, o, nt⟩ := t
      have HE := Lib.hid hta
      have hkz : (k : Int) < (l.length : Int) := by omega
      clear hta lat
      obtain ⟨W0, hW0⟩ : ∃ x, x = wr := ⟨_, rfl⟩
      subst hW0
      go_upto_region 8 with fail
      go_cut [61] from 47 to 61 (fun v wx => ∃ b : Bool, v = .bool b ∧ Later W0 wx)
      case first => as_aux_lemma =>
        refine wp_region_K (S := fun W : World => Later W0 W) (R := Later) (fun _ => Later.refl _) (by kernel_rfl) ?_
        have hS : (fun W : World => Later W0 W) W0.drew := (Later.refl W0).drew
        refine wpAnyK_take Later.refl (fun _ _ _ h k => h.trans k) (fun _ _ h k => h.trans k) (i := 0) (oi := { dst := some 47, op := _, type := _, pos := _, after := _, guard := _ }) (v := ?_) rfl (by kernel_rfl) (by kernel_rfl) (by kernel_rfl) (fun _ _ _ h => h) (Or.inl (Or.inl ⟨by rfl, ?_⟩)) hS ?_
        rotate_left
        focus ((intro w hSw; (try dsimp only at hSw); skip; go_simp); (try with_reducible rfl))
        intro wq hwq
        replace hS := hS.trans hwq
        (try simp only [Act.put, List.setIfInBounds_toArray, List.set_cons_zero, List.set_cons_succ])
        clear hwq
        refine wpAnyK_take Later.refl (fun _ _ _ h k => h.trans k) (fun _ _ h k => h.trans k) (i := 1) (oi := { dst := some 48, op := _, type := _, pos := _, after := _, guard := _ }) (v := ?_) rfl (by kernel_rfl) (by kernel_rfl) (by kernel_rfl) (fun _ _ _ h => h) (Or.inl (Or.inl ⟨by rfl, ?_⟩)) hS ?_
        rotate_left
        focus ((intro w hSw; (try dsimp only at hSw); skip; go_simp); (try with_reducible rfl))
        intro wq hwq
        replace hS := hS.trans hwq
        (try simp only [Act.put, List.setIfInBounds_toArray, List.set_cons_zero, List.set_cons_succ])
        clear hwq
        refine wpAnyK_take Later.refl (fun _ _ _ h k => h.trans k) (fun _ _ h k => h.trans k) (i := 2) (oi := { dst := some 49, op := _, type := _, pos := _, after := _, guard := _ }) (v := ?_) rfl (by kernel_rfl) (by kernel_rfl) (by kernel_rfl) (fun _ _ _ h => h) (Or.inl (Or.inl ⟨by rfl, ?_⟩)) hS ?_
        rotate_left
        focus ((intro w hSw; (try dsimp only at hSw); skip; go_simp); (try with_reducible rfl))
        intro wq hwq
        replace hS := hS.trans hwq
        (try simp only [Act.put, List.setIfInBounds_toArray, List.set_cons_zero, List.set_cons_succ])
        clear hwq
        refine wpAnyK_take Later.refl (fun _ _ _ h k => h.trans k) (fun _ _ h k => h.trans k) (i := 3) (oi := { dst := some 50, op := _, type := _, pos := _, after := _, guard := _ }) (v := ?_) rfl (by kernel_rfl) (by kernel_rfl) (by kernel_rfl) (fun _ _ _ h => h) (Or.inl (Or.inl ⟨by rfl, ?_⟩)) hS ?_
        rotate_left
        focus ((intro w hSw; (try dsimp only at hSw); skip; go_simp); (try with_reducible rfl))
        intro wq hwq
        replace hS := hS.trans hwq
        (try simp only [Act.put, List.setIfInBounds_toArray, List.set_cons_zero, List.set_cons_succ])
        clear hwq
        refine wpAnyK_take Later.refl (fun _ _ _ h k => h.trans k) (fun _ _ h k => h.trans k) (i := 4) (oi := { dst := some 51, op := _, type := _, pos := _, after := _, guard := _ }) (v := ?_) rfl (by kernel_rfl) (by kernel_rfl) (by kernel_rfl) (fun _ _ _ h => h) (Or.inl (Or.inl ⟨by rfl, ?_⟩)) hS ?_
        rotate_left
        focus ((intro w hSw; (try dsimp only at hSw); have e0 := (HE.out.later hSw).1.out; have e4 := (HE.out.later hSw).2.2.2.2.1.out; dsimp only at e0 e4; have e4 : w.cell? ⟨tb, toff + k * 7 + 2 + 2, none⟩ = some (.string vs) := e4; go_simp); (try with_reducible rfl))
        intro wq hwq
        replace hS := hS.trans hwq
        (try simp only [Act.put, List.setIfInBounds_toArray, List.set_cons_zero, List.set_cons_succ])
        clear hwq
        refine wpAnyK_take Later.refl (fun _ _ _ h k => h.trans k) (fun _ _ h k => h.trans k) (i := 5) (oi := { dst := some 52, op := _, type := _, pos := _, after := _, guard := _ }) (v := ?_) rfl (by kernel_rfl) (by kernel_rfl) (by kernel_rfl) (fun _ _ _ h => h) (Or.inl (Or.inl ⟨by rfl, ?_⟩)) hS ?_
        rotate_left
        focus ((intro w hSw; (try dsimp only at hSw); skip; go_simp); (try with_reducible rfl))
        intro wq hwq
        replace hS := hS.trans hwq
        (try simp only [Act.put, List.setIfInBounds_toArray, List.set_cons_zero, List.set_cons_succ])
        clear hwq
        refine wpAnyK_take Later.refl (fun _ _ _ h k => h.trans k) (fun _ _ h k => h.trans k) (i := 6) (oi := { dst := some 53, op := _, type := _, pos := _, after := _, guard := _ }) (v := ?_) rfl (by kernel_rfl) (by kernel_rfl) (by kernel_rfl) (fun _ _ _ h => h) (Or.inl (Or.inl ⟨by rfl, ?_⟩)) hS ?_
        rotate_left
        focus ((intro w hSw; (try dsimp only at hSw); skip; go_simp); (try with_reducible rfl))
        intro wq hwq
        replace hS := hS.trans hwq
        (try simp only [Act.put, List.setIfInBounds_toArray, List.set_cons_zero, List.set_cons_succ])
        clear hwq
        refine wpAnyK_take Later.refl (fun _ _ _ h k => h.trans k) (fun _ _ h k => h.trans k) (i := 7) (oi := { dst := some 54, op := _, type := _, pos := _, after := _, guard := _ }) (v := ?_) rfl (by kernel_rfl) (by kernel_rfl) (by kernel_rfl) (fun _ _ _ h => h) (Or.inl (Or.inl ⟨by rfl, ?_⟩)) hS ?_
        rotate_left
        focus ((intro w hSw; (try dsimp only at hSw); skip; go_simp); (try with_reducible rfl))
        intro wq hwq
        replace hS := hS.trans hwq
        (try simp only [Act.put, List.setIfInBounds_toArray, List.set_cons_zero, List.set_cons_succ])
        clear hwq
        refine wpAnyK_take Later.refl (fun _ _ _ h k => h.trans k) (fun _ _ h k => h.trans k) (i := 8) (oi := { dst := some 55, op := _, type := _, pos := _, after := _, guard := _ }) (v := ?_) rfl (by kernel_rfl) (by kernel_rfl) (by kernel_rfl) (fun _ _ _ h => h) (Or.inl (Or.inl ⟨by rfl, ?_⟩)) hS ?_
        rotate_left
        focus ((intro w hSw; (try dsimp only at hSw); skip; go_simp); (try with_reducible rfl))
        intro wq hwq
        replace hS := hS.trans hwq
        (try simp only [Act.put, List.setIfInBounds_toArray, List.set_cons_zero, List.set_cons_succ])
        clear hwq
        refine wpAnyK_take Later.refl (fun _ _ _ h k => h.trans k) (fun _ _ h k => h.trans k) (i := 9) (oi := { dst := some 56, op := _, type := _, pos := _, after := _, guard := _ }) (v := ?_) rfl (by kernel_rfl) (by kernel_rfl) (by kernel_rfl) (fun _ _ _ h => h) (Or.inl (Or.inl ⟨by rfl, ?_⟩)) hS ?_
        rotate_left
        focus ((intro w hSw; (try dsimp only at hSw); skip; go_simp); (try with_reducible rfl))
        intro wq hwq
        replace hS := hS.trans hwq
        (try simp only [Act.put, List.setIfInBounds_toArray, List.set_cons_zero, List.set_cons_succ])
        clear hwq
        refine wpAnyK_take Later.refl (fun _ _ _ h k => h.trans k) (fun _ _ h k => h.trans k) (i := 10) (oi := { dst := some 57, op := _, type := _, pos := _, after := _, guard := _ }) (v := ?_) rfl (by kernel_rfl) (by kernel_rfl) (by kernel_rfl) (fun _ _ _ h => h) (Or.inl (Or.inl ⟨by rfl, ?_⟩)) hS ?_
        rotate_left
        focus ((intro w hSw; (try dsimp only at hSw); skip; go_simp); (try with_reducible rfl))
        intro wq hwq
        replace hS := hS.trans hwq
        (try simp only [Act.put, List.setIfInBounds_toArray, List.set_cons_zero, List.set_cons_succ])
        clear hwq
        refine wpAnyK_take Later.refl (fun _ _ _ h k => h.trans k) (fun _ _ h k => h.trans k) (i := 11) (oi := { dst := some 58, op := _, type := _, pos := _, after := _, guard := _ }) (v := ?_) rfl (by kernel_rfl) (by kernel_rfl) (by kernel_rfl) (fun _ _ _ h => h) (Or.inl (Or.inl ⟨by rfl, ?_⟩)) hS ?_
        rotate_left
        focus ((intro w hSw; (try dsimp only at hSw); have e0 := (HE.out.later hSw).1.out; have e4 := (HE.out.later hSw).2.2.2.2.1.out; dsimp only at e0 e4; have e4 : w.cell? ⟨tb, toff + k * 7 + 2 + 2, none⟩ = some (.string vs) := e4; go_simp); (try with_reducible rfl))
        intro wq hwq
        replace hS := hS.trans hwq
        (try simp only [Act.put, List.setIfInBounds_toArray, List.set_cons_zero, List.set_cons_succ])
        clear hwq
        refine wpAnyK_take Later.refl (fun _ _ _ h k => h.trans k) (fun _ _ h k => h.trans k) (i := 12) (oi := { dst := some 59, op := _, type := _, pos := _, after := _, guard := _ }) (v := ?_) rfl (by kernel_rfl) (by kernel_rfl) (by kernel_rfl) (fun _ _ _ h => h) (Or.inl (Or.inl ⟨by rfl, ?_⟩)) hS ?_
        rotate_left
        focus ((intro w hSw; (try dsimp only at hSw); skip; go_simp); (try with_reducible rfl))
        intro wq hwq
        replace hS := hS.trans hwq
        (try simp only [Act.put, List.setIfInBounds_toArray, List.set_cons_zero, List.set_cons_succ])
        clear hwq
        refine wpAnyK_take Later.refl (fun _ _ _ h k => h.trans k) (fun _ _ h k => h.trans k) (i := 13) (oi := { dst := some 60, op := _, type := _, pos := _, after := _, guard := _ }) (v := ?_) rfl (by kernel_rfl) (by kernel_rfl) (by kernel_rfl) (fun _ _ _ h => h) (Or.inl (Or.inl ⟨by rfl, ?_⟩)) hS ?_
        rotate_left
        focus ((intro w hSw; (try dsimp only at hSw); skip; go_simp); (try with_reducible rfl))
        intro wq hwq
        replace hS := hS.trans hwq
        (try simp only [Act.put, List.setIfInBounds_toArray, List.set_cons_zero, List.set_cons_succ])
        clear hwq
        refine wpAnyK_take Later.refl (fun _ _ _ h k => h.trans k) (fun _ _ h k => h.trans k) (i := 14) (oi := { dst := some 61, op := _, type := _, pos := _, after := _, guard := _ }) (v := ?_) rfl (by kernel_rfl) (by kernel_rfl) (by kernel_rfl) (fun _ _ _ h => h) (Or.inl (Or.inl ⟨by rfl, ?_⟩)) hS ?_
        rotate_left
        focus ((intro w hSw; (try dsimp only at hSw); skip; go_simp); (try with_reducible rfl))
        intro wq hwq
        replace hS := hS.trans hwq
        (try simp only [Act.put, List.setIfInBounds_toArray, List.set_cons_zero, List.set_cons_succ])
        clear hwq
        refine wpAnyK_done (by kernel_rfl) ?_ _
        have HS2 := Lib.hid hS
        clear hS
        go_wp2_with fail
        go_meet
        exact ⟨_, rfl, HS2.out⟩
      case rest =>
      obtain ⟨b, rfl, lx⟩ := hcut
      have HLX := Lib.hid (HLAT.out.trans lx)
      clear lx HE
      cases b with
      | true =>
        have HLZ := Lib.hid (HL0.out.trans HLX.out)
        go_wp2_with fail
        go_ret
        exact ⟨rfl, HLZ.out⟩
      | false =>
        go_wp2_with fail
        go_roundw
        case rel => exact ⟨k + 1, by go_num, hlt, HLX.out⟩
        case measure => simp [intOf]; omega
    · obtain ⟨w1, hw1⟩ : ∃ x, x = wr := ⟨_, rfl⟩
      subst hw1
      have HL1 := Lib.hid (HL0.out.trans lat)
      have HR1 := Lib.hid (HR.out.later HL1.out)
      obtain ⟨g, hg⟩ : ∃ g, w1.heap.size = g := ⟨_, rfl⟩
      have hkz : ¬ (k : Int) < (l.length : Int) := by omega
      clear lat HLAT HR HL0
      go_wp2_with (go_at_call 6; refine (made_any A n c _).mono ?_; rintro e w2 ⟨rfl, hw2⟩)
      have l2 : Later w1 w2 := hw2 ▸ Later.new _ _
      have HPK2 := Lib.hid (show Pks w2 g A n c bs from ⟨⟨0, Nat.zero_le _, hw2 ▸ Blk.new _ _ _ g hg.symm⟩, by
        have h := HR1.out
        rcases h with h | ⟨b, off, hA, hb, hcc⟩
        · exact .inl h
        · exact .inr ⟨b, off, hA, by omega, fun k v hv => l2.cell (hcc k v hv)⟩⟩)
      have HL2 := Lib.hid l2
      have HPK2L := Lib.hid HPK2.out.lt
      have HG0 := Lib.hid hg
      clear l2 hw2 HR1 hg hkz
      go_wp2_with fail
      refine (schema_any g A n c bs w2 HCC.out HPK2.out).mono ?_
      rintro e w3 ⟨t0, m, ts, V, vc, es, E, ec, d0, d1, d2, rfl, ⟨hm, htl, ht0, hts⟩, ⟨hes, het, hlay⟩, rs⟩
      obtain ⟨cols, hcols⟩ : ∃ x, playCols t0 m ts = x := ⟨_, rfl⟩
      rw [hcols] at rs
      have hcl : cols.length = m + 2 := by rw [← hcols, playCols_len, htl]
      obtain ⟨vn, hvn⟩ : ∃ x, m + 2 = x := ⟨_, rfl⟩
      rw [hvn] at rs hcl
      rw [hvn]
      have hvb : 2 ≤ vn ∧ vn ≤ 4 := by omega
      have HCL := Lib.hid hcl
      have hVX : HasX (some g) w3 V (fc cols) := HasX.own rs.oV fun _ h => by injection h with h; rw [← h]; exact rs.far.1
      obtain ⟨gs, hgs⟩ : ∃ x, w3.heap.size = x := ⟨_, rfl⟩
      have HGS := Lib.hid (show gs ≠ g from by have h1 := rs.far.size; have h2 := HPK2L.out; omega)
      obtain ⟨w4, hw4⟩ : ∃ x : World, (w3.alloc (.cells #[.slice V vn vc, .int .i64 vn] 33)).alloc (.cells #[.int .i64 d0, .int .i64 d1, .int .i64 d2, .slice E vn ec] 36) = x := ⟨_, rfl⟩
      have l4 : Later w3 w4 := hw4 ▸ (Later.new _ _).alloc _
      have HS4 := Lib.hid (show Blk w4 gs #[.slice V vn vc, .int .i64 vn] 33 from hw4 ▸ (Blk.new w3 _ _ gs hgs.symm).later (Later.new _ _))
      have HP4 := Lib.hid (rs.pk.later l4)
      have HF4 := Lib.hid (rs.far.later l4)
      have HV4 := Lib.hid (hVX.later l4)
      have HW4 := Lib.hid hw4
      clear hcols hvn hcl l4 rs hts het hlay hes ht0 htl HPK2 hVX hw4
      have s0 := HS4.out.cell 0 _ rfl
      have s1 := HS4.out.cell 1 _ rfl
      have HBT := Lib.hid (batch_any 15 g A n c bs V vn vc (vn : Int) cols w4 HCC.out HP4.out HCL.out.symm (by omega) (by omega) HV4.out)
      go_wp2_with fail
      rw [HW4.out]
      refine HBT.out.mono ?_
      rintro e w5 ⟨gz, zs, rfl, hzl, hzr, hz20, _, hp5, hf5⟩
      have HL5 := Lib.hid (HL1.out.trans ((HF4.out.trans hf5).out HG0.out.symm HL2.out))
      have HZ := Lib.hid hzr
      have hzne : colsOf zs ≠ [] := by
        intro e
        have h := congrArg List.length e
        unfold colsOf at h
        rw [List.length_map, hzl] at h
        simp at h
        omega
      have HHT := Lib.hid (show heightC (colsOf zs) = 15 from predheight_same _ 15 hzne fun x hx => by
        obtain ⟨s, hs, rfl⟩ := List.mem_map.1 hx
        exact (hz20 s hs).1)
      have HZL := Lib.hid hzl
      have HZ20 := Lib.hid hz20
      have HS5 := Lib.hid (hf5.blk HS4.out HGS.out)
      have HV5 := Lib.hid (HV4.out.far hf5).has
      have HR25 := Lib.hid (HR2.out.later HL5.out)
      have HR3 := Lib.hid (HR3W.out.later HL5.out)
      obtain ⟨g2, hg2⟩ : ∃ x, w5.heap.size = x := ⟨_, rfl⟩
      clear hzl hzr hz20 hp5 hf5 HBT HP4 HF4 HV4 HS4 s0 s1 hgs HPK2L HCC HL1 HL2 HG0 HW4 hzne HR2 HR3W
      go_wp2_with (go_at_call 6; refine (made_any A2 n2 c2 _).mono ?_; rintro e w6 ⟨rfl, hw6⟩)
      have l6 : Later w5 w6 := hw6 ▸ Later.new _ _
      have HPK6 := Lib.hid (show Pks w6 g2 A2 n2 c2 bs2 from ⟨⟨0, Nat.zero_le _, hw6 ▸ Blk.new _ _ _ g2 hg2.symm⟩, by
        have h := HR25.out
        rcases h with h | ⟨b, off, hA, hb, hcc⟩
        · exact .inl h
        · exact .inr ⟨b, off, hA, by omega, fun k v hv => l6.cell (hcc k v hv)⟩⟩)
      have HL56 := Lib.hid l6
      have HG2 := Lib.hid hg2
      have HV6 := Lib.hid (HasX.old HV5.out (Nat.le_of_eq hg2) l6)
      clear l6 hw6 hg2 HR25
      go_upto_region 14 with fail
      go_cut [13] from 74 to 89 (fun v wx => ∃ (LB : Nat) (l1 l2 l3 : List Tst), v = .slice (some ⟨LB, 0, none⟩) 4 4 ∧ LotsAt wx LB [l, l1, l2, l3 ++ l] ∧ l1.length ≤ 3 ∧ l2.length ≤ 3 ∧ l3.length ≤ 3 ∧ Later w5 wx)
      case first => as_aux_lemma =>
        refine wp_region_K (S := fun W : World => Far g2 w6 W) (R := fun a b => a = b) (fun _ => rfl) (by kernel_rfl) ?_
        have hS : Far g2 w6 w6.drew := Far.of HPK6.out.lt (Later.refl w6).drew
        have HPQ := Lib.hid (HPK6.out.later (Later.refl w6).drew)
        have HVX := Lib.hid (HV6.out.later (Later.refl w6).drew)
        obtain ⟨wq, hwq⟩ : ∃ x, w6.drew = x := ⟨_, rfl⟩
        rw [hwq] at hS HPQ HVX ⊢
        clear hwq
        refine wpAnyK_take (fun _ => rfl) (fun _ _ _ h k => h.trans k) (fun _ _ h k => k ▸ h) (i := 0) (oi := { dst := some 74, op := _, type := _, pos := _, after := _, guard := _ }) (v := ?_) rfl (by kernel_rfl) (by kernel_rfl) (by kernel_rfl) (fun _ _ _ h => h) (Or.inl (Or.inl ⟨by rfl, ?_⟩)) hS ?_
        rotate_left
        focus ((intro w hSw; (try dsimp only at hSw); skip; go_simp); (try with_reducible rfl))
        intro wq' hwq
        subst hwq
        (try simp only [Act.put, List.setIfInBounds_toArray, List.set_cons_zero, List.set_cons_succ])
        refine wpAnyK_take (fun _ => rfl) (fun _ _ _ h k => h.trans k) (fun _ _ h k => k ▸ h) (i := 1) (oi := { dst := some 75, op := _, type := _, pos := _, after := _, guard := _ }) (v := ?_) rfl (by kernel_rfl) (by kernel_rfl) (by kernel_rfl) (fun _ _ _ h => h) (Or.inl (Or.inl ⟨by rfl, ?_⟩)) hS ?_
        rotate_left
        focus ((intro w hSw; (try dsimp only at hSw); skip; go_simp); (try with_reducible rfl))
        intro wq' hwq
        subst hwq
        (try simp only [Act.put, List.setIfInBounds_toArray, List.set_cons_zero, List.set_cons_succ])
        refine wpAnyK_take (fun _ => rfl) (fun _ _ _ h k => h.trans k) (fun _ _ h k => k ▸ h) (i := 2) (oi := { dst := some 76, op := _, type := _, pos := _, after := _, guard := _ }) (v := ?_) rfl (by kernel_rfl) (by kernel_rfl) (by kernel_rfl) (fun _ _ _ h => h) (Or.inl (Or.inl ⟨by rfl, ?_⟩)) hS ?_
        rotate_left
        focus ((intro w hSw; (try dsimp only at hSw); have lq := hSw.out HG2.out.symm HL56.out; have s0 := (HS5.out.later lq).cell 0 _ rfl; have s1 := (HS5.out.later lq).cell 1 _ rfl; go_simp); (try with_reducible rfl))
        intro wq' hwq
        subst hwq
        (try simp only [Act.put, List.setIfInBounds_toArray, List.set_cons_zero, List.set_cons_succ])
        refine wpAnyK_take (fun _ => rfl) (fun _ _ _ h k => h.trans k) (fun _ _ h k => k ▸ h) (i := 5) (oi := { dst := some 79, op := _, type := _, pos := _, after := _, guard := _ }) (v := ?_) rfl (by kernel_rfl) (by kernel_rfl) (by kernel_rfl) (fun _ _ _ h => h) (Or.inl (Or.inl ⟨by rfl, ?_⟩)) hS ?_
        rotate_left
        focus ((intro w hSw; (try dsimp only at hSw); skip; go_simp); (try with_reducible rfl))
        intro wq' hwq
        subst hwq
        (try simp only [Act.put, List.setIfInBounds_toArray, List.set_cons_zero, List.set_cons_succ])
        refine wpAnyK_take (fun _ => rfl) (fun _ _ _ h k => h.trans k) (fun _ _ h k => k ▸ h) (i := 6) (oi := { dst := some 80, op := _, type := _, pos := _, after := _, guard := _ }) (v := ?_) rfl (by kernel_rfl) (by kernel_rfl) (by kernel_rfl) (fun _ _ _ h => h) (Or.inl (Or.inl ⟨by rfl, ?_⟩)) hS ?_
        rotate_left
        focus ((intro w hSw; (try dsimp only at hSw); have lq := hSw.out HG2.out.symm HL56.out; have s0 := (HS5.out.later lq).cell 0 _ rfl; have s1 := (HS5.out.later lq).cell 1 _ rfl; go_simp); (try with_reducible rfl))
        intro wq' hwq
        subst hwq
        (try simp only [Act.put, List.setIfInBounds_toArray, List.set_cons_zero, List.set_cons_succ])
        refine wpAnyK_take (fun _ => rfl) (fun _ _ _ h k => h.trans k) (fun _ _ h k => k ▸ h) (i := 9) (oi := { dst := some 83, op := _, type := _, pos := _, after := _, guard := _ }) (v := ?_) rfl (by kernel_rfl) (by kernel_rfl) (by kernel_rfl) (fun _ _ _ h => h) (Or.inl (Or.inl ⟨by rfl, ?_⟩)) hS ?_
        rotate_left
        focus ((intro w hSw; (try dsimp only at hSw); skip; go_simp); (try with_reducible rfl))
        intro wq' hwq
        subst hwq
        (try simp only [Act.put, List.setIfInBounds_toArray, List.set_cons_zero, List.set_cons_succ])
        refine wpAnyK_take (fun _ => rfl) (fun _ _ _ h k => h.trans k) (fun _ _ h k => k ▸ h) (i := 10) (oi := { dst := some 84, op := _, type := _, pos := _, after := _, guard := _ }) (v := ?_) rfl (by kernel_rfl) (by kernel_rfl) (by kernel_rfl) (fun _ _ _ h => h) (Or.inl (Or.inl ⟨by rfl, ?_⟩)) hS ?_
        rotate_left
        focus ((intro w hSw; (try dsimp only at hSw); have lq := hSw.out HG2.out.symm HL56.out; have s0 := (HS5.out.later lq).cell 0 _ rfl; have s1 := (HS5.out.later lq).cell 1 _ rfl; go_simp); (try with_reducible rfl))
        intro wq' hwq
        subst hwq
        (try simp only [Act.put, List.setIfInBounds_toArray, List.set_cons_zero, List.set_cons_succ])
        refine wpAnyK_take (fun _ => rfl) (fun _ _ _ h k => h.trans k) (fun _ _ h k => k ▸ h) (i := 13) (oi := { dst := some 87, op := _, type := _, pos := _, after := _, guard := _ }) (v := ?_) rfl (by kernel_rfl) (by kernel_rfl) (by kernel_rfl) (fun _ _ _ h => h) (Or.inl (Or.inl ⟨by rfl, ?_⟩)) hS ?_
        rotate_left
        focus ((intro w hSw; (try dsimp only at hSw); skip; go_simp); (try with_reducible rfl))
        intro wq' hwq
        subst hwq
        (try simp only [Act.put, List.setIfInBounds_toArray, List.set_cons_zero, List.set_cons_succ])
        refine wpAnyK_all (rs := [3]) (by kernel_rfl) (by simp) (fun i hi => ?_)
        simp only [List.mem_cons, List.not_mem_nil, or_false] at hi
        subst hi
        refine stepK (o := { dst := some 77, op := _, type := _, pos := _, after := _, guard := _ }) rfl (fun K hK => ?_)
        go_simp
        refine (query_any g2 A2 n2 c2 bs2 V vn vc (vn : Int) cols wq HCC2.out HPQ.out HCL.out.symm (by omega) HVX.out).mono ?_
        rintro e w7 ⟨C1, cn1, cc1, ns1, T1, tn1, tc1, t1, G1, gn1, gc1, ag1, K1, kn1, kc1, ky1, z1, rfl, -, ⟨⟨htn1, htl1⟩, -, htc1⟩, -, -, -, qe⟩
        have HSP := Lib.hid hS
        replace hS : Far g2 w6 w7 := hS.trans qe.far
        have HPQ := Lib.hid qe.pk
        have HVX := Lib.hid (HVX.out.far qe.far)
        have HO1 := Lib.hid qe.oT
        have HT1 := Lib.hid (show HasX (some g2) w7 T1 (ft t1) from HasX.own qe.oT fun g' h' => by injection h' with h'; have := HSP.out.lt; omega)
        have HF1 := Lib.hid qe.far
        have HTN1 := Lib.hid htn1
        have HTC1 := Lib.hid htc1
        refine hK _ _ hS ?_
        clear hK qe HSP htn1 htc1
        intro wq' hwq
        subst hwq
        (try simp only [Act.put, List.setIfInBounds_toArray, List.set_cons_zero, List.set_cons_succ])
        refine wpAnyK_take (fun _ => rfl) (fun _ _ _ h k => h.trans k) (fun _ _ h k => k ▸ h) (i := 4) (oi := { dst := some 78, op := _, type := _, pos := _, after := _, guard := _ }) (v := ?_) rfl (by kernel_rfl) (by kernel_rfl) (by kernel_rfl) (fun _ _ _ h => h) (Or.inl (Or.inl ⟨by rfl, ?_⟩)) hS ?_
        rotate_left
        focus ((intro w hSw; (try dsimp only at hSw); have hfd : ∀ w : World, (Instr.field 45 (.agg #[.slice C1 cn1 cc1, .slice T1 tn1 tc1, .slice G1 gn1 gc1, .slice K1 kn1 kc1, .int .i64 z1]) 1).run Tryd.prog w = .ok (.slice T1 tn1 tc1) w := (fun _ => by kernel_rfl); go_simp); (try with_reducible rfl))
        intro wq' hwq
        subst hwq
        (try simp only [Act.put, List.setIfInBounds_toArray, List.set_cons_zero, List.set_cons_succ])
        refine wpAnyK_all (rs := [7]) (by kernel_rfl) (by simp) (fun i hi => ?_)
        simp only [List.mem_cons, List.not_mem_nil, or_false] at hi
        subst hi
        refine stepK (o := { dst := some 81, op := _, type := _, pos := _, after := _, guard := _ }) rfl (fun K hK => ?_)
        go_simp
        refine (query_any g2 A2 n2 c2 bs2 V vn vc (vn : Int) cols w7 HCC2.out HPQ.out HCL.out.symm (by omega) HVX.out).mono ?_
        rintro e w8 ⟨C2, cn2, cc2, ns2, T2, tn2, tc2, t2, G2, gn2, gc2, ag2, K2, kn2, kc2, ky2, z2, rfl, -, ⟨⟨htn2, htl2⟩, -, htc2⟩, -, -, -, qe⟩
        have HSP := Lib.hid hS
        replace hS : Far g2 w6 w8 := hS.trans qe.far
        have HPQ := Lib.hid qe.pk
        have HVX := Lib.hid (HVX.out.far qe.far)
        have HT1 := Lib.hid (HT1.out.far qe.far)
        have HO2 := Lib.hid qe.oT
        have HT2 := Lib.hid (show HasX (some g2) w8 T2 (ft t2) from HasX.own qe.oT fun g' h' => by injection h' with h'; have := HSP.out.lt; omega)
        have HF2 := Lib.hid qe.far
        have HTN2 := Lib.hid htn2
        have HTC2 := Lib.hid htc2
        refine hK _ _ hS ?_
        clear hK qe HSP htn2 htc2
        intro wq' hwq
        subst hwq
        (try simp only [Act.put, List.setIfInBounds_toArray, List.set_cons_zero, List.set_cons_succ])
        refine wpAnyK_take (fun _ => rfl) (fun _ _ _ h k => h.trans k) (fun _ _ h k => k ▸ h) (i := 8) (oi := { dst := some 82, op := _, type := _, pos := _, after := _, guard := _ }) (v := ?_) rfl (by kernel_rfl) (by kernel_rfl) (by kernel_rfl) (fun _ _ _ h => h) (Or.inl (Or.inl ⟨by rfl, ?_⟩)) hS ?_
        rotate_left
        focus ((intro w hSw; (try dsimp only at hSw); have hfd : ∀ w : World, (Instr.field 45 (.agg #[.slice C2 cn2 cc2, .slice T2 tn2 tc2, .slice G2 gn2 gc2, .slice K2 kn2 kc2, .int .i64 z2]) 1).run Tryd.prog w = .ok (.slice T2 tn2 tc2) w := (fun _ => by kernel_rfl); go_simp); (try with_reducible rfl))
        intro wq' hwq
        subst hwq
        (try simp only [Act.put, List.setIfInBounds_toArray, List.set_cons_zero, List.set_cons_succ])
        refine wpAnyK_all (rs := [11]) (by kernel_rfl) (by simp) (fun i hi => ?_)
        simp only [List.mem_cons, List.not_mem_nil, or_false] at hi
        subst hi
        refine stepK (o := { dst := some 85, op := _, type := _, pos := _, after := _, guard := _ }) rfl (fun K hK => ?_)
        go_simp
        refine (query_any g2 A2 n2 c2 bs2 V vn vc (vn : Int) cols w8 HCC2.out HPQ.out HCL.out.symm (by omega) HVX.out).mono ?_
        rintro e w9 ⟨C3, cn3, cc3, ns3, T3, tn3, tc3, t3, G3, gn3, gc3, ag3, K3, kn3, kc3, ky3, z3, rfl, -, ⟨⟨htn3, htl3⟩, -, htc3⟩, -, -, -, qe⟩
        have HSP := Lib.hid hS
        have HSF := Lib.hid (show Far g2 w6 w8 from hS)
        replace hS : Far g2 w6 w9 := hS.trans qe.far
        have HPQ := Lib.hid qe.pk
        have HVX := Lib.hid (HVX.out.far qe.far)
        have HO3 := Lib.hid qe.oT
        have HT3 := Lib.hid (show HasX (some g2) w9 T3 (ft t3) from HasX.own qe.oT fun g' h' => by injection h' with h'; have := HSP.out.lt; omega)
        have HF3 := Lib.hid qe.far
        have HTN3 := Lib.hid htn3
        have HTC3 := Lib.hid htc3
        refine hK _ _ hS ?_
        clear hK qe HSP htn3 htc3
        intro wq' hwq
        subst hwq
        (try simp only [Act.put, List.setIfInBounds_toArray, List.set_cons_zero, List.set_cons_succ])
        refine wpAnyK_take (fun _ => rfl) (fun _ _ _ h k => h.trans k) (fun _ _ h k => k ▸ h) (i := 12) (oi := { dst := some 86, op := _, type := _, pos := _, after := _, guard := _ }) (v := ?_) rfl (by kernel_rfl) (by kernel_rfl) (by kernel_rfl) (fun _ _ _ h => h) (Or.inl (Or.inl ⟨by rfl, ?_⟩)) hS ?_
        rotate_left
        focus ((intro w hSw; (try dsimp only at hSw); have hfd : ∀ w : World, (Instr.field 45 (.agg #[.slice C3 cn3 cc3, .slice T3 tn3 tc3, .slice G3 gn3 gc3, .slice K3 kn3 kc3, .int .i64 z3]) 1).run Tryd.prog w = .ok (.slice T3 tn3 tc3) w := (fun _ => by kernel_rfl); go_simp); (try with_reducible rfl))
        intro wq' hwq
        subst hwq
        (try simp only [Act.put, List.setIfInBounds_toArray, List.set_cons_zero, List.set_cons_succ])
        refine wpAnyK_all (rs := [14]) (by kernel_rfl) (by simp) (fun i hi => ?_)
        simp only [List.mem_cons, List.not_mem_nil, or_false] at hi
        subst hi
        refine stepK (o := { dst := some 88, op := _, type := _, pos := _, after := _, guard := _ }) rfl (fun K hK => ?_)
        have HF68 := Lib.hid (show Far g2 w6 w8 from HSF.out)
        have hsz := HF3.out.size
        have lq9 := hS.out HG2.out.symm HL56.out
        refine step_append_n rfl (.tmp 86) (.tmp 87) 23 rfl w8.heap.size 28 _ 7 64 Tryd.underlying23 info_t rfl (by decide) _ tn3 _ rfl (own_low HO3.out (by omega)) A3 l.length c3 (ft l) rfl (HR3.out.later lq9) (ft_length l) HNIL3.out (ft_one l) (by unfold maxLen; omega) (by omega) hsz ?_
        rintro A' c' w10 ho hgr hbl hnl
        have hf8 := Far.below HF3.out hbl
        replace hS : Far g2 w6 w10 := HF68.out.trans hf8
        have HT1 := Lib.hid (HT1.out.far hf8)
        have HT2 := Lib.hid (HT2.out.far hf8)
        have HT4 := Lib.hid (show Has w10 A' (ft (t3 ++ l)) from by rw [ft_append]; exact Has.ownG ho)
        refine hK _ _ hS ?_
        clear hK ho hgr hbl hnl hf8 hsz lq9
        intro wq' hwq
        subst hwq
        (try simp only [Act.put, List.setIfInBounds_toArray, List.set_cons_zero, List.set_cons_succ])
        refine wpAnyK_all (rs := [15]) (by kernel_rfl) (by simp) (fun i hi => ?_)
        simp only [List.mem_cons, List.not_mem_nil, or_false] at hi
        subst hi
        refine stepK (o := { dst := some 89, op := _, type := _, pos := _, after := _, guard := _ }) rfl (fun K hK => ?_)
        go_simp
        obtain ⟨gl, hgl⟩ : ∃ x, w10.heap.size = x := ⟨_, rfl⟩
        obtain ⟨wl, hwl⟩ : ∃ x, w10.alloc (.cells #[.slice A3 l.length c3, .slice T1 tn1 tc1, .slice T2 tn2 tc2, .slice A' (tn3 + l.length) c'] 23) = x := ⟨_, rfl⟩
        have ll : Later w10 wl := hwl ▸ Later.new _ _
        have hbl : Blk wl gl #[.slice A3 l.length c3, .slice T1 tn1 tc1, .slice T2 tn2 tc2, .slice A' (tn3 + l.length) c'] 23 := hwl ▸ Blk.new w10 _ _ gl hgl.symm
        try rw [hgl]
        rw [hwl]
        replace hS : Far g2 w6 wl := hS.later ll
        have HLOT := Lib.hid (lots_mk hbl rfl HTN1.out HTN2.out (by rw [List.length_append, HTN3.out]) (HR3.out.later (hS.out HG2.out.symm HL56.out)) (HT1.out.has.later ll) (HT2.out.has.later ll) (HT4.out.later ll))
        refine hK _ _ hS ?_
        clear hK hwl hgl ll hbl
        intro wq' hwq
        subst hwq
        (try simp only [Act.put, List.setIfInBounds_toArray, List.set_cons_zero, List.set_cons_succ])
        refine wpAnyK_take (fun _ => rfl) (fun _ _ _ h k => h.trans k) (fun _ _ h k => k ▸ h) (i := 16) (oi := { dst := some 13, op := _, type := _, pos := _, after := _, guard := _ }) (v := ?_) rfl (by kernel_rfl) (by kernel_rfl) (by kernel_rfl) (fun _ _ _ h => h) (Or.inl (Or.inl ⟨by rfl, ?_⟩)) hS ?_
        rotate_left
        focus ((intro w hSw; (try dsimp only at hSw); skip; go_simp); (try with_reducible rfl))
        intro wq' hwq
        subst hwq
        (try simp only [Act.put, List.setIfInBounds_toArray, List.set_cons_zero, List.set_cons_succ])
        refine wpAnyK_done (by kernel_rfl) ?_ _
        have HS2 := Lib.hid hS
        clear hS
        go_wp2_with fail
        go_meet
        exact ⟨gl, t1, t2, t3, rfl, HLOT.out, by have := HTN1.out; omega, by have := HTN2.out; omega, by have := HTN3.out; omega, HS2.out.out HG2.out.symm HL56.out⟩
      case rest =>
      obtain ⟨LB, l1, l2, l3, rfl, hlo, hl1, hl2, hl3, lx⟩ := hcut
      obtain ⟨L, hL⟩ : ∃ L, [l, l1, l2, l3 ++ l] = L := ⟨_, rfl⟩
      have hLl : L.length = 4 := by rw [← hL]; rfl
      have HLT := Lib.hid (show ∀ x ∈ L, x.length ≤ 13 from by
        rw [← hL]
        intro x hx
        simp only [List.mem_cons, List.not_mem_nil, or_false] at hx
        rcases hx with rfl | rfl | rfl | rfl
        · omega
        · omega
        · omega
        · rw [List.length_append]; omega)
      rw [hL] at hlo
      obtain ⟨W0, hW0⟩ : ∃ x, x = wc := ⟨_, rfl⟩
      subst hW0
      have HLL := Lib.hid hLl
      have HLO := Lib.hid hlo
      have HL7 := Lib.hid (HL5.out.trans lx)
      have HV7 := Lib.hid (HV5.out.later lx)
      have HS7 := Lib.hid (HS5.out.later lx)
      have HZ7 := Lib.hid (HZ.out.later lx)
      obtain ⟨cs, hcs⟩ : ∃ x, colsOf zs = x := ⟨_, rfl⟩
      have HCS := Lib.hid hcs
      have HCSL := Lib.hid (show cs.length = vn from by rw [← hcs]; unfold colsOf; rw [List.length_map]; exact HZL.out)
      have HCSN := Lib.hid (show ∀ x ∈ cs, x.length = 15 from by
        intro x hx
        rw [← hcs] at hx
        obtain ⟨s, hs, rfl⟩ := List.mem_map.1 hx
        exact (HZ20.out s hs).1)
      have HHC := Lib.hid (show heightC cs = 15 from by rw [← hcs]; exact HHT.out)
      have HJ0 := Lib.hid (ZsI.mk (cs := cs) (W := W0) (wr := W0) 0 0 0 none 0 rfl rfl (Nat.zero_le _) (ownG_nil _ _ _ _) (fun _ => rfl) (Later.refl _))
      clear lx hlo hl1 hl2 hl3 hL hLl hcs HL5 HV5 HS5 HZ HR3 HPK6 HL56 HG2 HV6 HHT HNIL3 HCC2 HGS
      go_wp2_with fail
      go_loopw [14, 15] (fun zv iv wr => ZsI cs W0 zv iv wr) (fun _ i _ => vn - (intOf i).toNat)
      case atStart => exact HJ0.out
      case round =>
        obtain ⟨k, Z, zc, rfl, rfl, hk, hown, hnil, lat⟩ := hrel
        have HOWN := Lib.hid hown
        have HNIL := Lib.hid hnil
        have HLAT := Lib.hid lat
        clear HJ0 hown hnil
        by_cases hlt : k < vn
        · have hkc : k < cs.length := by rw [HCSL.out]; exact hlt
          have hkz0 : k < zs.length := by rw [HZL.out]; exact hlt
          obtain ⟨cb, co, hZA, hcell, hhas, _, _, _⟩ := (HZ7.out.later lat).get k hkz0
          have hzk : zs[k].l = cs[k] := colsOf_get HCS.out k hkz0 hkc
          have hlen : cs[k].length = 15 := HCSN.out _ (List.getElem_mem hkc)
          have HOF := Lib.hid (refOf_any zs[k].a zs[k].l.length zs[k].c zs[k].l wr rfl (by rw [hzk, hlen]; omega) hhas)
          have HF := Lib.hid (show fz ((cs.map zoneOf).take (k + 1)) = fz ((cs.map zoneOf).take k) ++ encZ (zoneOf cs[k]) from by
            rw [List.take_succ_eq_append_getElem (by rw [List.length_map]; exact hkc), fz_append, List.getElem_map]
            show _ ++ (encZ (zoneOf cs[k]) ++ []) = _
            rw [List.append_nil])
          rw [hzk] at hcell HOF
          unfold ZoneP at HOF
          rw [zoneOf_eq] at HOF
          generalize zoneOf cs[k] = zn at HOF HF
          rw [hlen] at hcell HOF
          generalize zs[k].a = ca at hcell HOF
          generalize zs[k].c = cc at hcell HOF
          obtain ⟨z0, ⟨a1, a2, a3⟩, ⟨b1, b2, b3⟩⟩ := zn
          simp only [encZ] at HOF HF
          have HBK := Lib.hid (fun (wz : World) => Blk.new wz #[.int .i64 z0, .int .i64 a1, .int .i64 a2, .string a3, .int .i64 b1, .int .i64 b2, .string b3] 50 wz.heap.size rfl)
          have hkz : (k : Int) < (vn : Int) := by omega
          injection hZA with hZA
          injection hZA with hZ1 hZ2
          subst hZ1 hZ2
          rw [Nat.zero_add] at hcell
          clear lat hhas hzk hlen
          go_wp2_with fail
          refine HOF.out.mono ?_
          rintro e w8 ⟨rfl, l8⟩
          have HOB := Lib.hid (fun (o : Obj) => own_later HOWN.out (l8.trans (Later.new w8 o)))
          have HLX := Lib.hid (HLAT.out.trans l8)
          have hs1 := HLX.out.size
          clear l8 hcell HOF
          go_wp2_with (at_builtin; refine wpList_append_g _ rfl (.tmp 96) (.tmp 102) 48 rfl W0.heap.size 50 _ 7 72 Tryd.underlying48 info_zn rfl (by decide) _ k _ rfl (HOB.out _) _ 1 1 [.int .i64 z0, .int .i64 a1, .int .i64 a2, .string a3, .int .i64 b1, .int .i64 b2, .string b3] rfl (HBK.out w8).has rfl (by intro h; cases h) (by intro u hu; simp only [List.mem_cons, List.not_mem_nil, or_false] at hu; rcases hu with rfl | rfl | rfl | rfl | rfl | rfl | rfl <;> rfl) (by unfold maxLen; omega) (by omega) (by simp; omega) ?_; rintro A' c' wq hO _ hbel hn2; have HO2 := Lib.hid hO; have HN2 := Lib.hid hn2; have HL3 := Lib.hid (Later.of ((HLX.out.alloc _).below.trans hbel)); clear hO hn2 hbel)
          go_roundw
          case rel => exact ZsI.mk _ (k + 1) _ _ _ (by omega) rfl hkc (by rw [HF.out]; exact HO2.out) HN2.out HL3.out
          case measure => simp [intOf]; omega
        · obtain ⟨ZA, hZA⟩ : ∃ x, x = Z := ⟨_, rfl⟩
          subst hZA
          obtain ⟨zac, hzac⟩ : ∃ x, x = zc := ⟨_, rfl⟩
          subst hzac
          obtain rfl : vn = k := by have := HCSL.out; omega
          have HZH := Lib.hid (show Has wr ZA (fz (cs.map zoneOf)) from by
            have h := Has.ownG HOWN.out
            rwa [List.take_of_length_le (by rw [List.length_map, HCSL.out]; exact Nat.le_refl _)] at h)
          obtain ⟨W1, hW1⟩ : ∃ x, x = wr := ⟨_, rfl⟩
          subst hW1
          have HL8 := Lib.hid (HL7.out.trans lat)
          have HV8 := Lib.hid (HV7.out.later lat)
          have HS8 := Lib.hid (HS7.out.later lat)
          have HZ8 := Lib.hid (HZ7.out.later lat)
          have HLO8 := Lib.hid (HLO.out.later lat)
          have HM0 := Lib.hid (show ∃ j : Nat, Value.int .i64 0 = .int .i64 j ∧ j ≤ 4 ∧ Later W1 W1 from ⟨0, rfl, by omega, Later.refl _⟩)
          clear lat HLAT HOWN HNIL HL7 HV7 HS7 HZ7 HLO hlt
          go_wp2_with fail
          go_loopw [16] (fun iv wr => ∃ j : Nat, iv = .int .i64 j ∧ j ≤ 4 ∧ Later W1 wr) (fun i _ => 4 - (intOf i).toNat)
          case atStart => exact HM0.out
          case round =>
            obtain ⟨j, rfl, hj, lat⟩ := hrel
            clear HM0
            by_cases hjl : j < 4
            · have hjL : j < L.length := by rw [HLL.out]; exact hjl
              obtain ⟨TA, tc, hlc, hT⟩ := HLO8.out.later lat j hjL
              have hts13 := HLT.out _ (List.getElem_mem hjL)
              generalize L[j] = ts at hlc hT hts13
              obtain ⟨W2, hW2⟩ : ∃ x, x = wr := ⟨_, rfl⟩
              subst hW2
              have HLAT := Lib.hid lat
              have HSB := Lib.hid (HS8.out.later lat)
              have HLC := Lib.hid hlc
              have HT := Lib.hid hT
              have HVB := Lib.hid (HV8.out.later lat)
              have HGB := Lib.hid (HGW.out.later (HL8.out.trans lat))
              have HSS := Lib.hid (HSW.out.later (HL8.out.trans lat))
              have hjz : (j : Int) < 4 := by omega
              obtain ⟨cv, hcv⟩ : ∃ x, checkT cols ts = x := ⟨_, rfl⟩
              have HCV := Lib.hid hcv
              have HK1 := Lib.hid (fun (W : World) (h : Later W2 W) => show Calls Tryd.prog 11 #[.agg #[.slice V vn vc, .int .i64 vn], .slice TA ts.length tc] W (fun e w' => e = .returned (.int .i64 cv) ∧ Later W w') from by
                rw [← HCV.out]
                exact predCheck2_any V vn vc vn cols TA ts.length tc ts W (HGB.out.later h) (HSS.out.later h) HCL.out.symm (by omega) (HVB.out.later h) rfl (by omega) (HT.out.later h))
              have HK2 := Lib.hid (fun (W : World) (h : Later W2 W) => show Calls Tryd.prog 12 #[.agg #[.slice V vn vc, .int .i64 vn], .slice TA ts.length tc] W (fun e w' => e = .returned (.int .i64 cv) ∧ Later W w') from by
                rw [← HCV.out]
                exact refCheckTests_any V vn vc vn cols TA ts.length tc ts W HCL.out.symm (by omega) (HVB.out.later h) rfl (by omega) (HT.out.later h))
              clear hlc hT lat hcv
              go_upto_region 23 with fail
              go_cut [17, 18] from 110 to 121 (fun u1 u2 wx => u1 = .int .i64 cv ∧ u2 = .int .i64 cv ∧ Later W2 wx)
              case first => as_aux_lemma =>
                refine wp_region_K (S := fun W : World => Later W2 W) (R := Later) (fun _ => Later.refl _) (by kernel_rfl) ?_
                have hS : (fun W : World => Later W2 W) W2.drew := (Later.refl W2).drew
                refine wpAnyK_take Later.refl (fun _ _ _ h k => h.trans k) (fun _ _ h k => h.trans k) (i := 0) (oi := { dst := some 110, op := _, type := _, pos := _, after := _, guard := _ }) (v := ?_) rfl (by kernel_rfl) (by kernel_rfl) (by kernel_rfl) (fun _ _ _ h => h) (Or.inl (Or.inl ⟨by rfl, ?_⟩)) hS ?_
                rotate_left
                focus ((intro w hSw; (try dsimp only at hSw); have s0 := (HSB.out.later hSw).cell 0 _ rfl; have s1 := (HSB.out.later hSw).cell 1 _ rfl; go_simp); (try with_reducible rfl))
                intro wq hwq
                replace hS := hS.trans hwq
                (try simp only [Act.put, List.setIfInBounds_toArray, List.set_cons_zero, List.set_cons_succ])
                clear hwq
                refine wpAnyK_take Later.refl (fun _ _ _ h k => h.trans k) (fun _ _ h k => h.trans k) (i := 1) (oi := { dst := some 111, op := _, type := _, pos := _, after := _, guard := _ }) (v := ?_) rfl (by kernel_rfl) (by kernel_rfl) (by kernel_rfl) (fun _ _ _ h => h) (Or.inl (Or.inl ⟨by rfl, ?_⟩)) hS ?_
                rotate_left
                focus ((intro w hSw; (try dsimp only at hSw); skip; go_simp); (try with_reducible rfl))
                intro wq hwq
                replace hS := hS.trans hwq
                (try simp only [Act.put, List.setIfInBounds_toArray, List.set_cons_zero, List.set_cons_succ])
                clear hwq
                refine wpAnyK_take Later.refl (fun _ _ _ h k => h.trans k) (fun _ _ h k => h.trans k) (i := 2) (oi := { dst := some 112, op := _, type := _, pos := _, after := _, guard := _ }) (v := ?_) rfl (by kernel_rfl) (by kernel_rfl) (by kernel_rfl) (fun _ _ _ h => h) (Or.inl (Or.inl ⟨by rfl, ?_⟩)) hS ?_
                rotate_left
                focus ((intro w hSw; (try dsimp only at hSw); skip; go_simp); (try with_reducible rfl))
                intro wq hwq
                replace hS := hS.trans hwq
                (try simp only [Act.put, List.setIfInBounds_toArray, List.set_cons_zero, List.set_cons_succ])
                clear hwq
                refine wpAnyK_take Later.refl (fun _ _ _ h k => h.trans k) (fun _ _ h k => h.trans k) (i := 3) (oi := { dst := some 113, op := _, type := _, pos := _, after := _, guard := _ }) (v := ?_) rfl (by kernel_rfl) (by kernel_rfl) (by kernel_rfl) (fun _ _ _ h => h) (Or.inl (Or.inl ⟨by rfl, ?_⟩)) hS ?_
                rotate_left
                focus ((intro w hSw; (try dsimp only at hSw); skip; go_simp); (try with_reducible rfl))
                intro wq hwq
                replace hS := hS.trans hwq
                (try simp only [Act.put, List.setIfInBounds_toArray, List.set_cons_zero, List.set_cons_succ])
                clear hwq
                refine wpAnyK_take Later.refl (fun _ _ _ h k => h.trans k) (fun _ _ h k => h.trans k) (i := 4) (oi := { dst := some 114, op := _, type := _, pos := _, after := _, guard := _ }) (v := ?_) rfl (by kernel_rfl) (by kernel_rfl) (by kernel_rfl) (fun _ _ _ h => h) (Or.inl (Or.inl ⟨by rfl, ?_⟩)) hS ?_
                rotate_left
                focus ((intro w hSw; (try dsimp only at hSw); have lc := hSw.cell HLC.out; go_simp); (try with_reducible rfl))
                intro wq hwq
                replace hS := hS.trans hwq
                (try simp only [Act.put, List.setIfInBounds_toArray, List.set_cons_zero, List.set_cons_succ])
                clear hwq
                refine wpAnyK_take Later.refl (fun _ _ _ h k => h.trans k) (fun _ _ h k => h.trans k) (i := 5) (oi := { dst := some 115, op := _, type := _, pos := _, after := _, guard := _ }) (v := .int .i64 cv) rfl (by kernel_rfl) (by kernel_rfl) (by kernel_rfl) (fun _ _ _ h => h) (Or.inr ⟨by rfl, 11, #[.agg #[.slice V vn vc, .int .i64 vn], .slice TA ts.length tc], fun W hW => ⟨?_, HK1.out W hW⟩⟩) hS ?_
                · first | rfl | (go_simp; done)
                intro wq hwq
                replace hS := hS.trans hwq
                (try simp only [Act.put, List.setIfInBounds_toArray, List.set_cons_zero, List.set_cons_succ])
                clear hwq
                refine wpAnyK_take Later.refl (fun _ _ _ h k => h.trans k) (fun _ _ h k => h.trans k) (i := 6) (oi := { dst := some 116, op := _, type := _, pos := _, after := _, guard := _ }) (v := ?_) rfl (by kernel_rfl) (by kernel_rfl) (by kernel_rfl) (fun _ _ _ h => h) (Or.inl (Or.inl ⟨by rfl, ?_⟩)) hS ?_
                rotate_left
                focus ((intro w hSw; (try dsimp only at hSw); have s0 := (HSB.out.later hSw).cell 0 _ rfl; have s1 := (HSB.out.later hSw).cell 1 _ rfl; go_simp); (try with_reducible rfl))
                intro wq hwq
                replace hS := hS.trans hwq
                (try simp only [Act.put, List.setIfInBounds_toArray, List.set_cons_zero, List.set_cons_succ])
                clear hwq
                refine wpAnyK_take Later.refl (fun _ _ _ h k => h.trans k) (fun _ _ h k => h.trans k) (i := 7) (oi := { dst := some 117, op := _, type := _, pos := _, after := _, guard := _ }) (v := ?_) rfl (by kernel_rfl) (by kernel_rfl) (by kernel_rfl) (fun _ _ _ h => h) (Or.inl (Or.inl ⟨by rfl, ?_⟩)) hS ?_
                rotate_left
                focus ((intro w hSw; (try dsimp only at hSw); skip; go_simp); (try with_reducible rfl))
                intro wq hwq
                replace hS := hS.trans hwq
                (try simp only [Act.put, List.setIfInBounds_toArray, List.set_cons_zero, List.set_cons_succ])
                clear hwq
                refine wpAnyK_take Later.refl (fun _ _ _ h k => h.trans k) (fun _ _ h k => h.trans k) (i := 8) (oi := { dst := some 118, op := _, type := _, pos := _, after := _, guard := _ }) (v := ?_) rfl (by kernel_rfl) (by kernel_rfl) (by kernel_rfl) (fun _ _ _ h => h) (Or.inl (Or.inl ⟨by rfl, ?_⟩)) hS ?_
                rotate_left
                focus ((intro w hSw; (try dsimp only at hSw); skip; go_simp); (try with_reducible rfl))
                intro wq hwq
                replace hS := hS.trans hwq
                (try simp only [Act.put, List.setIfInBounds_toArray, List.set_cons_zero, List.set_cons_succ])
                clear hwq
                refine wpAnyK_take Later.refl (fun _ _ _ h k => h.trans k) (fun _ _ h k => h.trans k) (i := 9) (oi := { dst := some 119, op := _, type := _, pos := _, after := _, guard := _ }) (v := ?_) rfl (by kernel_rfl) (by kernel_rfl) (by kernel_rfl) (fun _ _ _ h => h) (Or.inl (Or.inl ⟨by rfl, ?_⟩)) hS ?_
                rotate_left
                focus ((intro w hSw; (try dsimp only at hSw); skip; go_simp); (try with_reducible rfl))
                intro wq hwq
                replace hS := hS.trans hwq
                (try simp only [Act.put, List.setIfInBounds_toArray, List.set_cons_zero, List.set_cons_succ])
                clear hwq
                refine wpAnyK_take Later.refl (fun _ _ _ h k => h.trans k) (fun _ _ h k => h.trans k) (i := 10) (oi := { dst := some 120, op := _, type := _, pos := _, after := _, guard := _ }) (v := ?_) rfl (by kernel_rfl) (by kernel_rfl) (by kernel_rfl) (fun _ _ _ h => h) (Or.inl (Or.inl ⟨by rfl, ?_⟩)) hS ?_
                rotate_left
                focus ((intro w hSw; (try dsimp only at hSw); have lc := hSw.cell HLC.out; go_simp); (try with_reducible rfl))
                intro wq hwq
                replace hS := hS.trans hwq
                (try simp only [Act.put, List.setIfInBounds_toArray, List.set_cons_zero, List.set_cons_succ])
                clear hwq
                refine wpAnyK_take Later.refl (fun _ _ _ h k => h.trans k) (fun _ _ h k => h.trans k) (i := 11) (oi := { dst := some 121, op := _, type := _, pos := _, after := _, guard := _ }) (v := .int .i64 cv) rfl (by kernel_rfl) (by kernel_rfl) (by kernel_rfl) (fun _ _ _ h => h) (Or.inr ⟨by rfl, 12, #[.agg #[.slice V vn vc, .int .i64 vn], .slice TA ts.length tc], fun W hW => ⟨?_, HK2.out W hW⟩⟩) hS ?_
                · first | rfl | (go_simp; done)
                intro wq hwq
                replace hS := hS.trans hwq
                (try simp only [Act.put, List.setIfInBounds_toArray, List.set_cons_zero, List.set_cons_succ])
                clear hwq
                refine wpAnyK_take Later.refl (fun _ _ _ h k => h.trans k) (fun _ _ h k => h.trans k) (i := 12) (oi := { dst := some 17, op := _, type := _, pos := _, after := _, guard := _ }) (v := ?_) rfl (by kernel_rfl) (by kernel_rfl) (by kernel_rfl) (fun _ _ _ h => h) (Or.inl (Or.inl ⟨by rfl, ?_⟩)) hS ?_
                rotate_left
                focus ((intro w hSw; (try dsimp only at hSw); skip; go_simp); (try with_reducible rfl))
                intro wq hwq
                replace hS := hS.trans hwq
                (try simp only [Act.put, List.setIfInBounds_toArray, List.set_cons_zero, List.set_cons_succ])
                clear hwq
                refine wpAnyK_take Later.refl (fun _ _ _ h k => h.trans k) (fun _ _ h k => h.trans k) (i := 13) (oi := { dst := some 18, op := _, type := _, pos := _, after := _, guard := _ }) (v := ?_) rfl (by kernel_rfl) (by kernel_rfl) (by kernel_rfl) (fun _ _ _ h => h) (Or.inl (Or.inl ⟨by rfl, ?_⟩)) hS ?_
                rotate_left
                focus ((intro w hSw; (try dsimp only at hSw); skip; go_simp); (try with_reducible rfl))
                intro wq hwq
                replace hS := hS.trans hwq
                (try simp only [Act.put, List.setIfInBounds_toArray, List.set_cons_zero, List.set_cons_succ])
                clear hwq
                refine wpAnyK_done (by kernel_rfl) ?_ _
                have HS2 := Lib.hid hS
                clear hS
                go_wp2_with fail
                go_meet
                exact ⟨rfl, rfl, HS2.out⟩
              case rest =>
              obtain ⟨rfl, rfl, lx⟩ := hcut
              obtain ⟨W3, hW3⟩ : ∃ x, x = wc := ⟨_, rfl⟩
              subst hW3
              have HSB := Lib.hid (HSB.out.later lx)
              have HLC := Lib.hid (lx.cell HLC.out)
              have HT := Lib.hid (HT.out.later lx)
              have HVB := Lib.hid (HVB.out.later lx)
              have HLAT := Lib.hid (HLAT.out.trans lx)
              clear lx HK1 HK2 HGB HSS
              by_cases hc0 : cv = 0
              · subst hc0
                have HOKT := Lib.hid (checkT_zero HCV.out)
                have HROWS := Lib.hid (fun (W : World) (h : Later W3 W) => show Calls Tryd.prog 13 #[.agg #[.slice V vn vc, .int .i64 vn], .slice TA ts.length tc, .slice (some ⟨gz, 0, none⟩) vn vn] W (PlacesP (passTo cols ts (rowsC cs) 15) W) from by
                  have h2 := predRows_any V vn vc vn cols TA ts.length tc ts (some ⟨gz, 0, none⟩) vn vn zs W HCL.out.symm (by omega) (HVB.out.later h) rfl (by omega) (HT.out.later h) HZL.out.symm (by omega) (HZ8.out.later (HLAT.out.trans h)) (fun s hs => by rw [(HZ20.out s hs).1]; omega)
                  rw [HCS.out] at h2
                  have h3 : (rowsC cs).length = 15 := by unfold rowsC; rw [List.length_map, List.length_range]; exact HHC.out
                  rw [h3] at h2
                  exact h2)
                obtain ⟨sel, hsel⟩ : ∃ x, passTo cols ts (rowsC cs) 15 = x := ⟨_, rfl⟩
                rw [hsel] at HROWS
                have HSEL := Lib.hid hsel
                have hsl : sel.length ≤ 15 := by rw [← hsel]; exact passTo_len _ _ _ _
                clear hsel
                go_upto_region 27 with fail
                go_cut [19] from 127 to 133 (fun v wx => ∃ (SA : Option Addr) (sc : Nat), v = .slice SA sel.length sc ∧ Has wx SA (ints .i64 sel) ∧ Later W3 wx)
                case first => as_aux_lemma =>
                  refine wp_region_K (S := fun W : World => Later W3 W) (R := fun a b => a = b) (fun _ => rfl) (by kernel_rfl) ?_
                  have hS : Later W3 W3.drew := (Later.refl W3).drew
                  obtain ⟨wd, hwd⟩ : ∃ x, W3.drew = x := ⟨_, rfl⟩
                  rw [hwd] at hS ⊢
                  clear hwd
                  refine wpAnyK_take (fun _ => rfl) (fun _ _ _ h k => h.trans k) (fun _ _ h k => k ▸ h) (i := 0) (oi := { dst := some 127, op := _, type := _, pos := _, after := _, guard := _ }) (v := ?_) rfl (by kernel_rfl) (by kernel_rfl) (by kernel_rfl) (fun _ _ _ h => h) (Or.inl (Or.inl ⟨by rfl, ?_⟩)) hS ?_
                  rotate_left
                  focus ((intro w hSw; (try dsimp only at hSw); have s0 := (HSB.out.later hSw).cell 0 _ rfl; have s1 := (HSB.out.later hSw).cell 1 _ rfl; go_simp); (try with_reducible rfl))
                  intro wq' hwq
                  subst hwq
                  (try simp only [Act.put, List.setIfInBounds_toArray, List.set_cons_zero, List.set_cons_succ])
                  refine wpAnyK_take (fun _ => rfl) (fun _ _ _ h k => h.trans k) (fun _ _ h k => k ▸ h) (i := 1) (oi := { dst := some 128, op := _, type := _, pos := _, after := _, guard := _ }) (v := ?_) rfl (by kernel_rfl) (by kernel_rfl) (by kernel_rfl) (fun _ _ _ h => h) (Or.inl (Or.inl ⟨by rfl, ?_⟩)) hS ?_
                  rotate_left
                  focus ((intro w hSw; (try dsimp only at hSw); skip; go_simp); (try with_reducible rfl))
                  intro wq' hwq
                  subst hwq
                  (try simp only [Act.put, List.setIfInBounds_toArray, List.set_cons_zero, List.set_cons_succ])
                  refine wpAnyK_take (fun _ => rfl) (fun _ _ _ h k => h.trans k) (fun _ _ h k => k ▸ h) (i := 2) (oi := { dst := some 129, op := _, type := _, pos := _, after := _, guard := _ }) (v := ?_) rfl (by kernel_rfl) (by kernel_rfl) (by kernel_rfl) (fun _ _ _ h => h) (Or.inl (Or.inl ⟨by rfl, ?_⟩)) hS ?_
                  rotate_left
                  focus ((intro w hSw; (try dsimp only at hSw); skip; go_simp); (try with_reducible rfl))
                  intro wq' hwq
                  subst hwq
                  (try simp only [Act.put, List.setIfInBounds_toArray, List.set_cons_zero, List.set_cons_succ])
                  refine wpAnyK_take (fun _ => rfl) (fun _ _ _ h k => h.trans k) (fun _ _ h k => k ▸ h) (i := 3) (oi := { dst := some 130, op := _, type := _, pos := _, after := _, guard := _ }) (v := ?_) rfl (by kernel_rfl) (by kernel_rfl) (by kernel_rfl) (fun _ _ _ h => h) (Or.inl (Or.inl ⟨by rfl, ?_⟩)) hS ?_
                  rotate_left
                  focus ((intro w hSw; (try dsimp only at hSw); skip; go_simp); (try with_reducible rfl))
                  intro wq' hwq
                  subst hwq
                  (try simp only [Act.put, List.setIfInBounds_toArray, List.set_cons_zero, List.set_cons_succ])
                  refine wpAnyK_take (fun _ => rfl) (fun _ _ _ h k => h.trans k) (fun _ _ h k => k ▸ h) (i := 4) (oi := { dst := some 131, op := _, type := _, pos := _, after := _, guard := _ }) (v := ?_) rfl (by kernel_rfl) (by kernel_rfl) (by kernel_rfl) (fun _ _ _ h => h) (Or.inl (Or.inl ⟨by rfl, ?_⟩)) hS ?_
                  rotate_left
                  focus ((intro w hSw; (try dsimp only at hSw); have lc := hSw.cell HLC.out; go_simp); (try with_reducible rfl))
                  intro wq' hwq
                  subst hwq
                  (try simp only [Act.put, List.setIfInBounds_toArray, List.set_cons_zero, List.set_cons_succ])
                  refine wpAnyK_take (fun _ => rfl) (fun _ _ _ h k => h.trans k) (fun _ _ h k => k ▸ h) (i := 5) (oi := { dst := some 132, op := _, type := _, pos := _, after := _, guard := _ }) (v := ?_) rfl (by kernel_rfl) (by kernel_rfl) (by kernel_rfl) (fun _ _ _ h => h) (Or.inl (Or.inl ⟨by rfl, ?_⟩)) hS ?_
                  rotate_left
                  focus ((intro w hSw; (try dsimp only at hSw); skip; go_simp); (try with_reducible rfl))
                  intro wq' hwq
                  subst hwq
                  (try simp only [Act.put, List.setIfInBounds_toArray, List.set_cons_zero, List.set_cons_succ])
                  refine wpAnyK_all (rs := [6]) (by kernel_rfl) (by simp) (fun i hi => ?_)
                  simp only [List.mem_cons, List.not_mem_nil, or_false] at hi
                  subst hi
                  refine stepK (o := { dst := some 133, op := _, type := _, pos := _, after := _, guard := _ }) rfl (fun K hK => ?_)
                  go_simp
                  refine (HROWS.out wd hS).mono ?_
                  rintro e w7 ⟨SA, sc, rfl, hsel, _, _, l7⟩
                  replace hS : Later W3 w7 := hS.trans l7
                  have HSL := Lib.hid hsel
                  refine hK _ _ hS ?_
                  clear hK hsel l7
                  intro wq' hwq
                  subst hwq
                  (try simp only [Act.put, List.setIfInBounds_toArray, List.set_cons_zero, List.set_cons_succ])
                  refine wpAnyK_take (fun _ => rfl) (fun _ _ _ h k => h.trans k) (fun _ _ h k => k ▸ h) (i := 7) (oi := { dst := some 19, op := _, type := _, pos := _, after := _, guard := _ }) (v := ?_) rfl (by kernel_rfl) (by kernel_rfl) (by kernel_rfl) (fun _ _ _ h => h) (Or.inl (Or.inl ⟨by rfl, ?_⟩)) hS ?_
                  rotate_left
                  focus ((intro w hSw; (try dsimp only at hSw); skip; go_simp); (try with_reducible rfl))
                  intro wq' hwq
                  subst hwq
                  (try simp only [Act.put, List.setIfInBounds_toArray, List.set_cons_zero, List.set_cons_succ])
                  refine wpAnyK_done (by kernel_rfl) ?_ _
                  have HS2 := Lib.hid hS
                  clear hS
                  go_wp2_with fail
                  go_meet
                  exact ⟨SA, sc, rfl, HSL.out, HS2.out⟩
                case rest =>
                obtain ⟨SA, sc, rfl, hsa, lx⟩ := hcut
                obtain ⟨W4, hW4⟩ : ∃ x, x = wc := ⟨_, rfl⟩
                subst hW4
                have HSB := Lib.hid (HSB.out.later lx)
                have HLC := Lib.hid (lx.cell HLC.out)
                have HT := Lib.hid (HT.out.later lx)
                have HVB := Lib.hid (HVB.out.later lx)
                have HLAT := Lib.hid (HLAT.out.trans lx)
                have HSA := Lib.hid hsa
                have HN0 := Lib.hid (show ∃ k : Nat, Value.int .i64 0 = .int .i64 ((passTo cols ts (rowsC cs) k).length : Nat) ∧ Value.int .i64 0 = .int .i64 k ∧ k ≤ 15 ∧ Later W4 W4 from ⟨0, rfl, rfl, by omega, Later.refl _⟩)
                clear lx hsa HROWS
                go_wp2_with fail
                go_loopw [20, 21] (fun nv kv wr => ∃ k : Nat, nv = .int .i64 ((passTo cols ts (rowsC cs) k).length : Nat) ∧ kv = .int .i64 k ∧ k ≤ 15 ∧ Later W4 wr) (fun _ i _ => 15 - (intOf i).toNat)
                case atStart => exact HN0.out
                case round =>
                  obtain ⟨k, rfl, rfl, hk15, lat⟩ := hrel
                  clear HN0
                  by_cases hlt : k < 15
                  · obtain ⟨W5, hW5⟩ : ∃ x, x = wr := ⟨_, rfl⟩
                    subst hW5
                    have HLW := Lib.hid lat
                    have hrl : (rowAt cs k).length = vn := by unfold rowAt; rw [List.length_map]; exact HCSL.out
                    have HRL := Lib.hid hrl
                    have HP0 := Lib.hid (RwxI.mk (row := rowAt cs k) (W := W5) (wr := W5) 0 0 0 none 0 rfl rfl (Nat.zero_le _) (ownG_nil _ _ _ _) (fun _ => rfl) (Later.refl _))
                    have hkz : (k : Int) < 15 := by omega
                    obtain ⟨pk, hpk⟩ : ∃ x, (passTo cols ts (rowsC cs) k).length = x := ⟨_, rfl⟩
                    have HPK := Lib.hid hpk
                    have hpk15 : pk ≤ 15 := by rw [← hpk]; have := passTo_len cols ts (rowsC cs) k; omega
                    rw [hpk]
                    clear lat hrl hpk
                    go_wp2_with fail
                    go_loopw [22, 23] (fun rv mv wr => RwxI (rowAt cs k) W5 rv mv wr) (fun _ i _ => vn - (intOf i).toNat)
                    case atStart => exact HP0.out
                    case round =>
                      obtain ⟨q, RA, rac, rfl, rfl, hq, hown, hnil, lat⟩ := hrel
                      have HOWN := Lib.hid hown
                      have HLAT2 := Lib.hid lat
                      clear HP0 hown hnil
                      by_cases hql : q < vn
                      · have hqr : q < (rowAt cs k).length := by rw [HRL.out]; exact hql
                        have hqz : q < zs.length := by rw [HZL.out]; exact hql
                        have hqc : q < cs.length := by rw [HCSL.out]; exact hql
                        obtain ⟨cb, co, hZB, hcell, hhas, _, _, _⟩ := (HZ8.out.later ((HLAT.out.trans HLW.out).trans lat)).get q hqz
                        have hzk : zs[q].l = cs[q] := colsOf_get HCS.out q hqz hqc
                        have hlen : cs[q].length = 15 := HCSN.out _ (List.getElem_mem hqc)
                        rw [hzk] at hcell hhas
                        obtain ⟨vb, vo, hVA, c0, c1, c2⟩ := hhas.val3 k (by rw [hlen]; exact hlt)
                        have hrv : (rowAt cs k)[q] = cs[q][k]'(by rw [hlen]; exact hlt) := predrow_get hqc (by rw [hlen]; exact hlt) hqr
                        have HF := Lib.hid (show fl ((rowAt cs k).take (q + 1)) = fl ((rowAt cs k).take q) ++ fl [cs[q][k]'(by rw [hlen]; exact hlt)] from by
                          rw [List.take_succ_eq_append_getElem hqr, fl_app, hrv])
                        rw [hVA] at hcell
                        rw [hlen] at hcell
                        generalize zs[q].c = cc at hcell
                        generalize cs[q][k]'(by rw [hlen]; exact hlt) = x at c0 c1 c2 HF
                        obtain ⟨xt, xi, xs⟩ := x
                        dsimp only at c0 c1 c2
                        injection hZB with hZB
                        injection hZB with hZ1 hZ2
                        subst hZ1 hZ2
                        rw [Nat.zero_add] at hcell
                        have HBK := Lib.hid (fun (wz : World) => Blk.new wz #[.int .i64 xt, .int .i64 xi, .string xs] 26 wz.heap.size rfl)
                        have HOB := Lib.hid (fun (o : Obj) => own_later HOWN.out (Later.new wr o))
                        have hs1 := lat.size
                        have hqz2 : (q : Int) < (vn : Int) := by omega
                        clear lat hhas hzk hVA hrv
                        go_wp2_with (at_builtin; refine wpList_append_g _ rfl (.tmp 144) (.tmp 152) 56 rfl W5.heap.size 26 _ 3 32 Tryd.underlying56 predinfo_v rfl (by decide) _ q _ rfl (HOB.out _) _ 1 1 (fl [(xt, xi, xs)]) rfl (HBK.out wr).has rfl (by intro h; cases h) (fl_one _) (by unfold maxLen; omega) (by omega) (by simp; omega) ?_; rintro A' c' wq hO _ hbel hn2; have HO2 := Lib.hid hO; have HN2 := Lib.hid hn2; have HL3 := Lib.hid (Later.of ((HLAT2.out.alloc _).below.trans hbel)); clear hO hn2 hbel)
                        go_roundw
                        case rel => exact RwxI.mk _ (q + 1) _ _ _ (by omega) rfl hqr (by rw [HF.out]; exact HO2.out) HN2.out HL3.out
                        case measure => simp [intOf]; omega
                      · obtain rfl : vn = q := by have := HRL.out; omega
                        have HRW := Lib.hid (show Has wr RA (fl (rowAt cs k)) from by
                          have h := Has.ownG HOWN.out
                          rwa [List.take_of_length_le (by rw [HRL.out]; exact Nat.le_refl _)] at h)
                        obtain ⟨W6, hW6⟩ : ∃ x, x = wr := ⟨_, rfl⟩
                        subst hW6
                        have l46 := HLW.out.trans lat
                        have HL46 := Lib.hid l46
                        obtain ⟨x, hx⟩ : ∃ x, rowT cols ts (rowAt cs k) = x := ⟨_, rfl⟩
                        have HX := Lib.hid hx
                        have HSX := Lib.hid HSB
                        have HLCX := Lib.hid HLC
                        have HSB := Lib.hid (HSB.out.later l46)
                        have HLC := Lib.hid (l46.cell HLC.out)
                        have HX1 := Lib.hid (fun (W : World) (h : Later W6 W) => show Calls Tryd.prog 14 #[.agg #[.slice V vn vc, .int .i64 vn], .slice TA ts.length tc, .slice RA vn rac] W (fun e w' => e = .returned (.int .i64 x) ∧ Later W w') from by
                          rw [← HX.out]
                          exact refTestRow_any V vn vc vn cols TA ts.length tc ts RA vn rac (rowAt cs k) W HCL.out.symm (by omega) (HVB.out.later (HL46.out.trans h)) rfl (by omega) (HT.out.later (HL46.out.trans h)) HRL.out.symm (by omega) (HRW.out.later h) (fun t ht => by
                            obtain ⟨h1, k', h2, h3⟩ := HOKT.out t ht
                            exact ⟨h1, k', h2, by rw [HRL.out]; rw [HCL.out] at h3; exact h3⟩))
                        have HX2 := Lib.hid (fun (W : World) (h : Later W6 W) => show Calls Tryd.prog 15 #[.agg #[.slice V vn vc, .int .i64 vn], .slice TA ts.length tc, .slice RA vn rac] W (fun e w' => e = .returned (.int .i64 x) ∧ Later W w') from by
                          rw [← HX.out]
                          exact predRow_any V vn vc vn cols TA ts.length tc ts RA vn rac (rowAt cs k) W HCL.out.symm (by omega) (HVB.out.later (HL46.out.trans h)) rfl (by omega) (HT.out.later (HL46.out.trans h)) HRL.out.symm (by omega) (HRW.out.later h))
                        clear lat HLAT2 HOWN l46 hx hql
                        go_upto_region 37 with fail
                        go_cut [24] from 154 to 160 (fun v wx => v = .int .i64 x ∧ Later W6 wx)
                        case first => as_aux_lemma =>
                          refine wp_region_K (S := fun W : World => Later W6 W) (R := Later) (fun _ => Later.refl _) (by kernel_rfl) ?_
                          have hS : (fun W : World => Later W6 W) W6.drew := (Later.refl W6).drew
                          refine wpAnyK_take Later.refl (fun _ _ _ h k => h.trans k) (fun _ _ h k => h.trans k) (i := 0) (oi := { dst := some 154, op := _, type := _, pos := _, after := _, guard := _ }) (v := ?_) rfl (by kernel_rfl) (by kernel_rfl) (by kernel_rfl) (fun _ _ _ h => h) (Or.inl (Or.inl ⟨by rfl, ?_⟩)) hS ?_
                          rotate_left
                          focus ((intro w hSw; (try dsimp only at hSw); have s0 := (HSB.out.later hSw).cell 0 _ rfl; have s1 := (HSB.out.later hSw).cell 1 _ rfl; go_simp); (try with_reducible rfl))
                          intro wq hwq
                          replace hS := hS.trans hwq
                          (try simp only [Act.put, List.setIfInBounds_toArray, List.set_cons_zero, List.set_cons_succ])
                          clear hwq
                          refine wpAnyK_take Later.refl (fun _ _ _ h k => h.trans k) (fun _ _ h k => h.trans k) (i := 1) (oi := { dst := some 155, op := _, type := _, pos := _, after := _, guard := _ }) (v := ?_) rfl (by kernel_rfl) (by kernel_rfl) (by kernel_rfl) (fun _ _ _ h => h) (Or.inl (Or.inl ⟨by rfl, ?_⟩)) hS ?_
                          rotate_left
                          focus ((intro w hSw; (try dsimp only at hSw); skip; go_simp); (try with_reducible rfl))
                          intro wq hwq
                          replace hS := hS.trans hwq
                          (try simp only [Act.put, List.setIfInBounds_toArray, List.set_cons_zero, List.set_cons_succ])
                          clear hwq
                          refine wpAnyK_take Later.refl (fun _ _ _ h k => h.trans k) (fun _ _ h k => h.trans k) (i := 2) (oi := { dst := some 156, op := _, type := _, pos := _, after := _, guard := _ }) (v := ?_) rfl (by kernel_rfl) (by kernel_rfl) (by kernel_rfl) (fun _ _ _ h => h) (Or.inl (Or.inl ⟨by rfl, ?_⟩)) hS ?_
                          rotate_left
                          focus ((intro w hSw; (try dsimp only at hSw); skip; go_simp); (try with_reducible rfl))
                          intro wq hwq
                          replace hS := hS.trans hwq
                          (try simp only [Act.put, List.setIfInBounds_toArray, List.set_cons_zero, List.set_cons_succ])
                          clear hwq
                          refine wpAnyK_take Later.refl (fun _ _ _ h k => h.trans k) (fun _ _ h k => h.trans k) (i := 3) (oi := { dst := some 157, op := _, type := _, pos := _, after := _, guard := _ }) (v := ?_) rfl (by kernel_rfl) (by kernel_rfl) (by kernel_rfl) (fun _ _ _ h => h) (Or.inl (Or.inl ⟨by rfl, ?_⟩)) hS ?_
                          rotate_left
                          focus ((intro w hSw; (try dsimp only at hSw); skip; go_simp); (try with_reducible rfl))
                          intro wq hwq
                          replace hS := hS.trans hwq
                          (try simp only [Act.put, List.setIfInBounds_toArray, List.set_cons_zero, List.set_cons_succ])
                          clear hwq
                          refine wpAnyK_take Later.refl (fun _ _ _ h k => h.trans k) (fun _ _ h k => h.trans k) (i := 4) (oi := { dst := some 158, op := _, type := _, pos := _, after := _, guard := _ }) (v := ?_) rfl (by kernel_rfl) (by kernel_rfl) (by kernel_rfl) (fun _ _ _ h => h) (Or.inl (Or.inl ⟨by rfl, ?_⟩)) hS ?_
                          rotate_left
                          focus ((intro w hSw; (try dsimp only at hSw); have lc := hSw.cell HLC.out; go_simp); (try with_reducible rfl))
                          intro wq hwq
                          replace hS := hS.trans hwq
                          (try simp only [Act.put, List.setIfInBounds_toArray, List.set_cons_zero, List.set_cons_succ])
                          clear hwq
                          refine wpAnyK_take Later.refl (fun _ _ _ h k => h.trans k) (fun _ _ h k => h.trans k) (i := 5) (oi := { dst := some 159, op := _, type := _, pos := _, after := _, guard := _ }) (v := ?_) rfl (by kernel_rfl) (by kernel_rfl) (by kernel_rfl) (fun _ _ _ h => h) (Or.inl (Or.inl ⟨by rfl, ?_⟩)) hS ?_
                          rotate_left
                          focus ((intro w hSw; (try dsimp only at hSw); skip; go_simp); (try with_reducible rfl))
                          intro wq hwq
                          replace hS := hS.trans hwq
                          (try simp only [Act.put, List.setIfInBounds_toArray, List.set_cons_zero, List.set_cons_succ])
                          clear hwq
                          refine wpAnyK_take Later.refl (fun _ _ _ h k => h.trans k) (fun _ _ h k => h.trans k) (i := 6) (oi := { dst := some 160, op := _, type := _, pos := _, after := _, guard := _ }) (v := .int .i64 x) rfl (by kernel_rfl) (by kernel_rfl) (by kernel_rfl) (fun _ _ _ h => h) (Or.inr ⟨by rfl, 14, #[.agg #[.slice V vn vc, .int .i64 vn], .slice TA ts.length tc, .slice RA vn rac], fun W hW => ⟨?_, HX1.out W hW⟩⟩) hS ?_
                          · first | rfl | (go_simp; done)
                          intro wq hwq
                          replace hS := hS.trans hwq
                          (try simp only [Act.put, List.setIfInBounds_toArray, List.set_cons_zero, List.set_cons_succ])
                          clear hwq
                          refine wpAnyK_take Later.refl (fun _ _ _ h k => h.trans k) (fun _ _ h k => h.trans k) (i := 7) (oi := { dst := some 24, op := _, type := _, pos := _, after := _, guard := _ }) (v := ?_) rfl (by kernel_rfl) (by kernel_rfl) (by kernel_rfl) (fun _ _ _ h => h) (Or.inl (Or.inl ⟨by rfl, ?_⟩)) hS ?_
                          rotate_left
                          focus ((intro w hSw; (try dsimp only at hSw); skip; go_simp); (try with_reducible rfl))
                          intro wq hwq
                          replace hS := hS.trans hwq
                          (try simp only [Act.put, List.setIfInBounds_toArray, List.set_cons_zero, List.set_cons_succ])
                          clear hwq
                          refine wpAnyK_done (by kernel_rfl) ?_ _
                          have HS2 := Lib.hid hS
                          clear hS
                          go_wp2_with fail
                          go_meet
                          exact ⟨rfl, HS2.out⟩
                        case rest =>
                        obtain ⟨rfl, lx⟩ := hcut
                        obtain ⟨W7, hW7⟩ : ∃ x, x = wc := ⟨_, rfl⟩
                        subst hW7
                        have HSB := Lib.hid (HSB.out.later lx)
                        have HLC := Lib.hid (lx.cell HLC.out)
                        have HL47 := Lib.hid (HL46.out.trans lx)
                        have HX2 := Lib.hid (fun (W : World) (h : Later W7 W) => HX2.out W (lx.trans h))
                        clear lx HX1 HL46
                        obtain ⟨W6, hW6⟩ : ∃ x, x = W7 := ⟨_, rfl⟩
                        subst hW6
                        go_upto_region 38 with fail
                        go_cut [169] from 161 to 169 (fun v wx => v = .bool false ∧ Later W6 wx)
                        case first => as_aux_lemma =>
                          refine wp_region_K (S := fun W : World => Later W6 W) (R := Later) (fun _ => Later.refl _) (by kernel_rfl) ?_
                          have hS : (fun W : World => Later W6 W) W6.drew := (Later.refl W6).drew
                          refine wpAnyK_take Later.refl (fun _ _ _ h k => h.trans k) (fun _ _ h k => h.trans k) (i := 0) (oi := { dst := some 161, op := _, type := _, pos := _, after := _, guard := _ }) (v := ?_) rfl (by kernel_rfl) (by kernel_rfl) (by kernel_rfl) (fun _ _ _ h => h) (Or.inl (Or.inl ⟨by rfl, ?_⟩)) hS ?_
                          rotate_left
                          focus ((intro w hSw; (try dsimp only at hSw); have s0 := (HSB.out.later hSw).cell 0 _ rfl; have s1 := (HSB.out.later hSw).cell 1 _ rfl; go_simp); (try with_reducible rfl))
                          intro wq hwq
                          replace hS := hS.trans hwq
                          (try simp only [Act.put, List.setIfInBounds_toArray, List.set_cons_zero, List.set_cons_succ])
                          clear hwq
                          refine wpAnyK_take Later.refl (fun _ _ _ h k => h.trans k) (fun _ _ h k => h.trans k) (i := 1) (oi := { dst := some 162, op := _, type := _, pos := _, after := _, guard := _ }) (v := ?_) rfl (by kernel_rfl) (by kernel_rfl) (by kernel_rfl) (fun _ _ _ h => h) (Or.inl (Or.inl ⟨by rfl, ?_⟩)) hS ?_
                          rotate_left
                          focus ((intro w hSw; (try dsimp only at hSw); skip; go_simp); (try with_reducible rfl))
                          intro wq hwq
                          replace hS := hS.trans hwq
                          (try simp only [Act.put, List.setIfInBounds_toArray, List.set_cons_zero, List.set_cons_succ])
                          clear hwq
                          refine wpAnyK_take Later.refl (fun _ _ _ h k => h.trans k) (fun _ _ h k => h.trans k) (i := 2) (oi := { dst := some 163, op := _, type := _, pos := _, after := _, guard := _ }) (v := ?_) rfl (by kernel_rfl) (by kernel_rfl) (by kernel_rfl) (fun _ _ _ h => h) (Or.inl (Or.inl ⟨by rfl, ?_⟩)) hS ?_
                          rotate_left
                          focus ((intro w hSw; (try dsimp only at hSw); skip; go_simp); (try with_reducible rfl))
                          intro wq hwq
                          replace hS := hS.trans hwq
                          (try simp only [Act.put, List.setIfInBounds_toArray, List.set_cons_zero, List.set_cons_succ])
                          clear hwq
                          refine wpAnyK_take Later.refl (fun _ _ _ h k => h.trans k) (fun _ _ h k => h.trans k) (i := 3) (oi := { dst := some 164, op := _, type := _, pos := _, after := _, guard := _ }) (v := ?_) rfl (by kernel_rfl) (by kernel_rfl) (by kernel_rfl) (fun _ _ _ h => h) (Or.inl (Or.inl ⟨by rfl, ?_⟩)) hS ?_
                          rotate_left
                          focus ((intro w hSw; (try dsimp only at hSw); skip; go_simp); (try with_reducible rfl))
                          intro wq hwq
                          replace hS := hS.trans hwq
                          (try simp only [Act.put, List.setIfInBounds_toArray, List.set_cons_zero, List.set_cons_succ])
                          clear hwq
                          refine wpAnyK_take Later.refl (fun _ _ _ h k => h.trans k) (fun _ _ h k => h.trans k) (i := 4) (oi := { dst := some 165, op := _, type := _, pos := _, after := _, guard := _ }) (v := ?_) rfl (by kernel_rfl) (by kernel_rfl) (by kernel_rfl) (fun _ _ _ h => h) (Or.inl (Or.inl ⟨by rfl, ?_⟩)) hS ?_
                          rotate_left
                          focus ((intro w hSw; (try dsimp only at hSw); have lc := hSw.cell HLC.out; go_simp); (try with_reducible rfl))
                          intro wq hwq
                          replace hS := hS.trans hwq
                          (try simp only [Act.put, List.setIfInBounds_toArray, List.set_cons_zero, List.set_cons_succ])
                          clear hwq
                          refine wpAnyK_take Later.refl (fun _ _ _ h k => h.trans k) (fun _ _ h k => h.trans k) (i := 5) (oi := { dst := some 166, op := _, type := _, pos := _, after := _, guard := _ }) (v := ?_) rfl (by kernel_rfl) (by kernel_rfl) (by kernel_rfl) (fun _ _ _ h => h) (Or.inl (Or.inl ⟨by rfl, ?_⟩)) hS ?_
                          rotate_left
                          focus ((intro w hSw; (try dsimp only at hSw); skip; go_simp); (try with_reducible rfl))
                          intro wq hwq
                          replace hS := hS.trans hwq
                          (try simp only [Act.put, List.setIfInBounds_toArray, List.set_cons_zero, List.set_cons_succ])
                          clear hwq
                          refine wpAnyK_take Later.refl (fun _ _ _ h k => h.trans k) (fun _ _ h k => h.trans k) (i := 6) (oi := { dst := some 167, op := _, type := _, pos := _, after := _, guard := _ }) (v := .int .i64 x) rfl (by kernel_rfl) (by kernel_rfl) (by kernel_rfl) (fun _ _ _ h => h) (Or.inr ⟨by rfl, 15, #[.agg #[.slice V vn vc, .int .i64 vn], .slice TA ts.length tc, .slice RA vn rac], fun W hW => ⟨?_, HX2.out W hW⟩⟩) hS ?_
                          · first | rfl | (go_simp; done)
                          intro wq hwq
                          replace hS := hS.trans hwq
                          (try simp only [Act.put, List.setIfInBounds_toArray, List.set_cons_zero, List.set_cons_succ])
                          clear hwq
                          refine wpAnyK_take Later.refl (fun _ _ _ h k => h.trans k) (fun _ _ h k => h.trans k) (i := 7) (oi := { dst := some 168, op := _, type := _, pos := _, after := _, guard := _ }) (v := ?_) rfl (by kernel_rfl) (by kernel_rfl) (by kernel_rfl) (fun _ _ _ h => h) (Or.inl (Or.inl ⟨by rfl, ?_⟩)) hS ?_
                          rotate_left
                          focus ((intro w hSw; (try dsimp only at hSw); skip; go_simp); (try with_reducible rfl))
                          intro wq hwq
                          replace hS := hS.trans hwq
                          (try simp only [Act.put, List.setIfInBounds_toArray, List.set_cons_zero, List.set_cons_succ])
                          clear hwq
                          refine wpAnyK_take Later.refl (fun _ _ _ h k => h.trans k) (fun _ _ h k => h.trans k) (i := 8) (oi := { dst := some 169, op := _, type := _, pos := _, after := _, guard := _ }) (v := ?_) rfl (by kernel_rfl) (by kernel_rfl) (by kernel_rfl) (fun _ _ _ h => h) (Or.inl (Or.inl ⟨by rfl, ?_⟩)) hS ?_
                          rotate_left
                          focus ((intro w hSw; (try dsimp only at hSw); skip; go_simp); (try with_reducible rfl))
                          intro wq hwq
                          replace hS := hS.trans hwq
                          (try simp only [Act.put, List.setIfInBounds_toArray, List.set_cons_zero, List.set_cons_succ])
                          clear hwq
                          refine wpAnyK_done (by kernel_rfl) ?_ _
                          have HS2 := Lib.hid hS
                          clear hS
                          go_wp2_with fail
                          go_meet
                          exact ⟨by simp, HS2.out⟩
                        case rest =>
                        obtain ⟨rfl, lx⟩ := hcut
                        have HL48 := Lib.hid (HL47.out.trans lx)
                        have hss := HSA.out.later HL48.out
                        clear lx HX2 HSB HLC HL47 HRW
                        by_cases hx2 : x = 2
                        · subst hx2
                          obtain ⟨hpl, hpe⟩ := passTo_at (cols := cols) (l := ts) (L := rowsC cs) hlt (by rw [rowsC_getD HHC.out hlt]; exact HX.out)
                          have HNX := Lib.hid (show (passTo cols ts (rowsC cs) (k + 1)).length = pk + 1 from by
                            rw [passTo_succ, rowsC_getD HHC.out hlt, HX.out, List.length_append, HPK.out]; rfl)
                          simp only [HSEL.out] at hpl hpe
                          simp only [HPK.out] at hpl hpe
                          obtain ⟨sb, so, hSA, hsc⟩ := has_at hss pk (by unfold ints; rw [List.length_map]; exact hpl)
                          have hsv : (ints .i64 sel)[pk]'(by unfold ints; rw [List.length_map]; exact hpl) = .int .i64 (k : Int) := by
                            unfold ints
                            rw [List.getElem_map, hpe]
                          rw [hsv] at hsc
                          subst hSA
                          have hge : decide ((sel.length : Int) ≤ (pk : Int)) = false := by simp; omega
                          have hpz : (pk : Int) < (sel.length : Int) := by omega
                          clear hss hsv hpe HPK
                          go_wp2_with fail
                          go_roundw
                          case rel => exact ⟨k + 1, by rw [HNX.out]; go_num, by go_num, by omega, HL48.out⟩
                          case measure => simp [intOf]; omega
                        · have hxb : (x != 2) = true := by simp [hx2]
                          have HNX := Lib.hid (show (passTo cols ts (rowsC cs) (k + 1)).length = pk from by
                            rw [passTo_succ, rowsC_getD HHC.out hlt, HX.out, if_neg hx2, List.append_nil, HPK.out])
                          clear hx2 hss HPK
                          go_wp2_with fail
                          go_roundw
                          case rel => exact ⟨k + 1, by rw [HNX.out], by go_num, by omega, HL48.out⟩
                          case measure => simp [intOf]; omega
                  · obtain rfl : k = 15 := by omega
                    rw [HSEL.out]
                    obtain ⟨W4', hW4'⟩ : ∃ x, x = wr := ⟨_, rfl⟩
                    subst hW4'
                    have HSB := Lib.hid (HSB.out.later lat)
                    have HLC := Lib.hid (lat.cell HLC.out)
                    have HT := Lib.hid (HT.out.later lat)
                    have HVB := Lib.hid (HVB.out.later lat)
                    have HLAT := Lib.hid (HLAT.out.trans lat)
                    obtain ⟨cn, hcn⟩ : ∃ x, predCan cols 15 (cs.map zoneOf) ts = x := ⟨_, rfl⟩
                    have HCN := Lib.hid hcn
                    have HSOUND := Lib.hid (show 0 < sel.length → cn = true from fun h => by
                      rw [← HSEL.out] at h
                      obtain ⟨i, hi, hp⟩ := passTo_some h
                      rw [rowsC_getD HHC.out hi] at hp
                      rw [← HCN.out]
                      exact can_sound (N := 15) HCSN.out hi hp)
                    have HZN := Lib.hid (show (cs.map zoneOf).length = vn from by rw [List.length_map]; exact HCSL.out)
                    have HZW := Lib.hid (HZH.out.later HLAT.out)
                    clear lat HSA hlt hcn
                    obtain ⟨W4, hW4⟩ : ∃ x, x = W4' := ⟨_, rfl⟩
                    subst hW4
                    have HC1 := Lib.hid (fun (W : World) (h : Later W4 W) => show Calls Tryd.prog 16 #[.agg #[.slice V vn vc, .int .i64 vn], .slice TA ts.length tc, .int .i64 15, .slice ZA vn zac] W (fun e w' => e = .returned (.bool cn) ∧ Later W w') from by
                      rw [← HCN.out]
                      exact predCan_any V vn vc vn cols TA ts.length tc ts 15 ZA vn zac (cs.map zoneOf) W HCL.out.symm (by omega) (HVB.out.later h) rfl (by omega) (HT.out.later h) HZN.out.symm (by omega) (HZW.out.later h))
                    have HC2W := Lib.hid (fun (W : World) (h : Later W4 W) => show Calls Tryd.prog 17 #[.agg #[.slice V vn vc, .int .i64 vn], .slice TA ts.length tc, .int .i64 15, .slice ZA vn zac] W (fun e w' => e = .returned (.bool cn) ∧ Later W w') from by
                      rw [← HCN.out]
                      exact refPCan_any V vn vc vn cols TA ts.length tc ts 15 ZA vn zac (cs.map zoneOf) W HCL.out.symm (by omega) (HVB.out.later h) rfl (by omega) (HT.out.later h) HZN.out.symm (by omega) (HZW.out.later h) (fun t ht => by
                        obtain ⟨h1, k', h2, h3⟩ := HOKT.out t ht
                        exact ⟨h1, k', h2, by rw [HZN.out]; rw [HCL.out] at h3; exact h3⟩))
                    go_upto_region 44 with fail
                    go_cut [25] from 186 to 192 (fun v wx => v = .bool cn ∧ Later W4 wx)
                    case first => as_aux_lemma =>
                      refine wp_region_K (S := fun W : World => Later W4 W) (R := Later) (fun _ => Later.refl _) (by kernel_rfl) ?_
                      have hS : (fun W : World => Later W4 W) W4.drew := (Later.refl W4).drew
                      refine wpAnyK_take Later.refl (fun _ _ _ h k => h.trans k) (fun _ _ h k => h.trans k) (i := 0) (oi := { dst := some 186, op := _, type := _, pos := _, after := _, guard := _ }) (v := ?_) rfl (by kernel_rfl) (by kernel_rfl) (by kernel_rfl) (fun _ _ _ h => h) (Or.inl (Or.inl ⟨by rfl, ?_⟩)) hS ?_
                      rotate_left
                      focus ((intro w hSw; (try dsimp only at hSw); have s0 := (HSB.out.later hSw).cell 0 _ rfl; have s1 := (HSB.out.later hSw).cell 1 _ rfl; go_simp); (try with_reducible rfl))
                      intro wq hwq
                      replace hS := hS.trans hwq
                      (try simp only [Act.put, List.setIfInBounds_toArray, List.set_cons_zero, List.set_cons_succ])
                      clear hwq
                      refine wpAnyK_take Later.refl (fun _ _ _ h k => h.trans k) (fun _ _ h k => h.trans k) (i := 1) (oi := { dst := some 187, op := _, type := _, pos := _, after := _, guard := _ }) (v := ?_) rfl (by kernel_rfl) (by kernel_rfl) (by kernel_rfl) (fun _ _ _ h => h) (Or.inl (Or.inl ⟨by rfl, ?_⟩)) hS ?_
                      rotate_left
                      focus ((intro w hSw; (try dsimp only at hSw); skip; go_simp); (try with_reducible rfl))
                      intro wq hwq
                      replace hS := hS.trans hwq
                      (try simp only [Act.put, List.setIfInBounds_toArray, List.set_cons_zero, List.set_cons_succ])
                      clear hwq
                      refine wpAnyK_take Later.refl (fun _ _ _ h k => h.trans k) (fun _ _ h k => h.trans k) (i := 2) (oi := { dst := some 188, op := _, type := _, pos := _, after := _, guard := _ }) (v := ?_) rfl (by kernel_rfl) (by kernel_rfl) (by kernel_rfl) (fun _ _ _ h => h) (Or.inl (Or.inl ⟨by rfl, ?_⟩)) hS ?_
                      rotate_left
                      focus ((intro w hSw; (try dsimp only at hSw); skip; go_simp); (try with_reducible rfl))
                      intro wq hwq
                      replace hS := hS.trans hwq
                      (try simp only [Act.put, List.setIfInBounds_toArray, List.set_cons_zero, List.set_cons_succ])
                      clear hwq
                      refine wpAnyK_take Later.refl (fun _ _ _ h k => h.trans k) (fun _ _ h k => h.trans k) (i := 3) (oi := { dst := some 189, op := _, type := _, pos := _, after := _, guard := _ }) (v := ?_) rfl (by kernel_rfl) (by kernel_rfl) (by kernel_rfl) (fun _ _ _ h => h) (Or.inl (Or.inl ⟨by rfl, ?_⟩)) hS ?_
                      rotate_left
                      focus ((intro w hSw; (try dsimp only at hSw); skip; go_simp); (try with_reducible rfl))
                      intro wq hwq
                      replace hS := hS.trans hwq
                      (try simp only [Act.put, List.setIfInBounds_toArray, List.set_cons_zero, List.set_cons_succ])
                      clear hwq
                      refine wpAnyK_take Later.refl (fun _ _ _ h k => h.trans k) (fun _ _ h k => h.trans k) (i := 4) (oi := { dst := some 190, op := _, type := _, pos := _, after := _, guard := _ }) (v := ?_) rfl (by kernel_rfl) (by kernel_rfl) (by kernel_rfl) (fun _ _ _ h => h) (Or.inl (Or.inl ⟨by rfl, ?_⟩)) hS ?_
                      rotate_left
                      focus ((intro w hSw; (try dsimp only at hSw); have lc := hSw.cell HLC.out; go_simp); (try with_reducible rfl))
                      intro wq hwq
                      replace hS := hS.trans hwq
                      (try simp only [Act.put, List.setIfInBounds_toArray, List.set_cons_zero, List.set_cons_succ])
                      clear hwq
                      refine wpAnyK_take Later.refl (fun _ _ _ h k => h.trans k) (fun _ _ h k => h.trans k) (i := 5) (oi := { dst := some 191, op := _, type := _, pos := _, after := _, guard := _ }) (v := ?_) rfl (by kernel_rfl) (by kernel_rfl) (by kernel_rfl) (fun _ _ _ h => h) (Or.inl (Or.inl ⟨by rfl, ?_⟩)) hS ?_
                      rotate_left
                      focus ((intro w hSw; (try dsimp only at hSw); skip; go_simp); (try with_reducible rfl))
                      intro wq hwq
                      replace hS := hS.trans hwq
                      (try simp only [Act.put, List.setIfInBounds_toArray, List.set_cons_zero, List.set_cons_succ])
                      clear hwq
                      refine wpAnyK_take Later.refl (fun _ _ _ h k => h.trans k) (fun _ _ h k => h.trans k) (i := 6) (oi := { dst := some 192, op := _, type := _, pos := _, after := _, guard := _ }) (v := .bool cn) rfl (by kernel_rfl) (by kernel_rfl) (by kernel_rfl) (fun _ _ _ h => h) (Or.inr ⟨by rfl, 16, #[.agg #[.slice V vn vc, .int .i64 vn], .slice TA ts.length tc, .int .i64 15, .slice ZA vn zac], fun W hW => ⟨?_, HC1.out W hW⟩⟩) hS ?_
                      · first | rfl | (go_simp; done)
                      intro wq hwq
                      replace hS := hS.trans hwq
                      (try simp only [Act.put, List.setIfInBounds_toArray, List.set_cons_zero, List.set_cons_succ])
                      clear hwq
                      refine wpAnyK_take Later.refl (fun _ _ _ h k => h.trans k) (fun _ _ h k => h.trans k) (i := 7) (oi := { dst := some 25, op := _, type := _, pos := _, after := _, guard := _ }) (v := ?_) rfl (by kernel_rfl) (by kernel_rfl) (by kernel_rfl) (fun _ _ _ h => h) (Or.inl (Or.inl ⟨by rfl, ?_⟩)) hS ?_
                      rotate_left
                      focus ((intro w hSw; (try dsimp only at hSw); skip; go_simp); (try with_reducible rfl))
                      intro wq hwq
                      replace hS := hS.trans hwq
                      (try simp only [Act.put, List.setIfInBounds_toArray, List.set_cons_zero, List.set_cons_succ])
                      clear hwq
                      refine wpAnyK_done (by kernel_rfl) ?_ _
                      have HS2 := Lib.hid hS
                      clear hS
                      go_wp2_with fail
                      go_meet
                      exact ⟨rfl, HS2.out⟩
                    case rest =>
                    obtain ⟨rfl, lx⟩ := hcut
                    have HSB := Lib.hid (HSB.out.later lx)
                    have HLC := Lib.hid (lx.cell HLC.out)
                    have HLAT := Lib.hid (HLAT.out.trans lx)
                    have HC2V := Lib.hid (fun (W : World) (h : Later wc W) => HC2W.out W (lx.trans h))
                    clear lx HC1 HC2W HT HVB HZW
                    obtain ⟨W4, hW4⟩ : ∃ x, x = wc := ⟨_, rfl⟩
                    subst hW4
                    have HC2 := Lib.hid (fun (W : World) (h : Later W4 W) => HC2V.out W h)
                    go_upto_region 45 with fail
                    go_cut [215] from 193 to 215 (fun v wx => v = .bool false ∧ Later W4 wx)
                    case first => as_aux_lemma =>
                      by_cases hp : 0 < sel.length
                      · have hct := HSOUND.out hp
                        subst hct
                        have hd : decide ((0 : Int) < (sel.length : Int)) = true := by rw [decide_eq_true_iff]; omega
                        have hd2 : decide (0 < sel.length) = true := by rw [decide_eq_true_iff]; omega
                        clear hp
                        refine wp_region_K (S := fun W : World => Later W4 W) (R := Later) (fun _ => Later.refl _) (by kernel_rfl) ?_
                        have hS : (fun W : World => Later W4 W) W4.drew := (Later.refl W4).drew
                        refine wpAnyK_take Later.refl (fun _ _ _ h k => h.trans k) (fun _ _ h k => h.trans k) (i := 0) (oi := { dst := some 193, op := _, type := _, pos := _, after := _, guard := _ }) (v := ?_) rfl (by kernel_rfl) (by kernel_rfl) (by kernel_rfl) (fun _ _ _ h => h) (Or.inl (Or.inl ⟨by rfl, ?_⟩)) hS ?_
                        rotate_left
                        focus ((intro w hSw; (try dsimp only at hSw); skip; go_simp); (try with_reducible rfl))
                        intro wq hwq
                        replace hS := hS.trans hwq
                        (try simp only [Act.put, List.setIfInBounds_toArray, List.set_cons_zero, List.set_cons_succ])
                        clear hwq
                        refine wpAnyK_take Later.refl (fun _ _ _ h k => h.trans k) (fun _ _ h k => h.trans k) (i := 1) (oi := { dst := some 194, op := _, type := _, pos := _, after := _, guard := _ }) (v := ?_) rfl (by kernel_rfl) (by kernel_rfl) (by kernel_rfl) (fun _ _ _ h => h) (Or.inl (Or.inl ⟨by rfl, ?_⟩)) hS ?_
                        rotate_left
                        focus ((intro w hSw; (try dsimp only at hSw); skip; go_simp); (try with_reducible rfl))
                        intro wq hwq
                        replace hS := hS.trans hwq
                        (try simp only [Act.put, List.setIfInBounds_toArray, List.set_cons_zero, List.set_cons_succ])
                        clear hwq
                        refine wpAnyK_take Later.refl (fun _ _ _ h k => h.trans k) (fun _ _ h k => h.trans k) (i := 2) (oi := { dst := some 195, op := _, type := _, pos := _, after := _, guard := _ }) (v := ?_) rfl (by kernel_rfl) (by kernel_rfl) (by kernel_rfl) (fun _ _ _ h => h) (Or.inl (Or.inl ⟨by rfl, ?_⟩)) hS ?_
                        rotate_left
                        focus ((intro w hSw; (try dsimp only at hSw); skip; go_simp); (try with_reducible rfl))
                        intro wq hwq
                        replace hS := hS.trans hwq
                        (try simp only [Act.put, List.setIfInBounds_toArray, List.set_cons_zero, List.set_cons_succ])
                        clear hwq
                        refine wpAnyK_take Later.refl (fun _ _ _ h k => h.trans k) (fun _ _ h k => h.trans k) (i := 3) (oi := { dst := some 196, op := _, type := _, pos := _, after := _, guard := _ }) (v := ?_) rfl (by kernel_rfl) (by kernel_rfl) (by kernel_rfl) (fun _ _ _ h => h) (Or.inl (Or.inl ⟨by rfl, ?_⟩)) hS ?_
                        rotate_left
                        focus ((intro w hSw; (try dsimp only at hSw); skip; go_simp); (try with_reducible rfl))
                        intro wq hwq
                        replace hS := hS.trans hwq
                        (try simp only [Act.put, List.setIfInBounds_toArray, List.set_cons_zero, List.set_cons_succ])
                        clear hwq
                        refine wpAnyK_take Later.refl (fun _ _ _ h k => h.trans k) (fun _ _ h k => h.trans k) (i := 4) (oi := { dst := some 197, op := _, type := _, pos := _, after := _, guard := _ }) (v := ?_) rfl (by kernel_rfl) (by kernel_rfl) (by kernel_rfl) (fun _ _ _ h => h) (Or.inl (Or.inl ⟨by rfl, ?_⟩)) hS ?_
                        rotate_left
                        focus ((intro w hSw; (try dsimp only at hSw); skip; go_simp); (try with_reducible rfl))
                        intro wq hwq
                        replace hS := hS.trans hwq
                        (try simp only [Act.put, List.setIfInBounds_toArray, List.set_cons_zero, List.set_cons_succ])
                        clear hwq
                        refine wpAnyK_take Later.refl (fun _ _ _ h k => h.trans k) (fun _ _ h k => h.trans k) (i := 5) (oi := { dst := some 198, op := _, type := _, pos := _, after := _, guard := _ }) (v := ?_) rfl (by kernel_rfl) (by kernel_rfl) (by kernel_rfl) (fun _ _ _ h => h) (Or.inl (Or.inl ⟨by rfl, ?_⟩)) hS ?_
                        rotate_left
                        focus ((intro w hSw; (try dsimp only at hSw); skip; go_simp); (try with_reducible rfl))
                        intro wq hwq
                        replace hS := hS.trans hwq
                        (try simp only [Act.put, List.setIfInBounds_toArray, List.set_cons_zero, List.set_cons_succ])
                        clear hwq
                        refine wpAnyK_take Later.refl (fun _ _ _ h k => h.trans k) (fun _ _ h k => h.trans k) (i := 6) (oi := { dst := some 199, op := _, type := _, pos := _, after := _, guard := _ }) (v := ?_) rfl (by kernel_rfl) (by kernel_rfl) (by kernel_rfl) (fun _ _ _ h => h) (Or.inl (Or.inl ⟨by rfl, ?_⟩)) hS ?_
                        rotate_left
                        focus ((intro w hSw; (try dsimp only at hSw); have s0 := (HSB.out.later hSw).cell 0 _ rfl; have s1 := (HSB.out.later hSw).cell 1 _ rfl; go_simp); (try with_reducible rfl))
                        intro wq hwq
                        replace hS := hS.trans hwq
                        (try simp only [Act.put, List.setIfInBounds_toArray, List.set_cons_zero, List.set_cons_succ])
                        clear hwq
                        refine wpAnyK_take Later.refl (fun _ _ _ h k => h.trans k) (fun _ _ h k => h.trans k) (i := 7) (oi := { dst := some 200, op := _, type := _, pos := _, after := _, guard := _ }) (v := ?_) rfl (by kernel_rfl) (by kernel_rfl) (by kernel_rfl) (fun _ _ _ h => h) (Or.inl (Or.inl ⟨by rfl, ?_⟩)) hS ?_
                        rotate_left
                        focus ((intro w hSw; (try dsimp only at hSw); skip; go_simp); (try with_reducible rfl))
                        intro wq hwq
                        replace hS := hS.trans hwq
                        (try simp only [Act.put, List.setIfInBounds_toArray, List.set_cons_zero, List.set_cons_succ])
                        clear hwq
                        refine wpAnyK_take Later.refl (fun _ _ _ h k => h.trans k) (fun _ _ h k => h.trans k) (i := 8) (oi := { dst := some 201, op := _, type := _, pos := _, after := _, guard := _ }) (v := ?_) rfl (by kernel_rfl) (by kernel_rfl) (by kernel_rfl) (fun _ _ _ h => h) (Or.inl (Or.inl ⟨by rfl, ?_⟩)) hS ?_
                        rotate_left
                        focus ((intro w hSw; (try dsimp only at hSw); skip; go_simp); (try with_reducible rfl))
                        intro wq hwq
                        replace hS := hS.trans hwq
                        (try simp only [Act.put, List.setIfInBounds_toArray, List.set_cons_zero, List.set_cons_succ])
                        clear hwq
                        refine wpAnyK_take Later.refl (fun _ _ _ h k => h.trans k) (fun _ _ h k => h.trans k) (i := 9) (oi := { dst := some 202, op := _, type := _, pos := _, after := _, guard := _ }) (v := ?_) rfl (by kernel_rfl) (by kernel_rfl) (by kernel_rfl) (fun _ _ _ h => h) (Or.inl (Or.inl ⟨by rfl, ?_⟩)) hS ?_
                        rotate_left
                        focus ((intro w hSw; (try dsimp only at hSw); skip; go_simp); (try with_reducible rfl))
                        intro wq hwq
                        replace hS := hS.trans hwq
                        (try simp only [Act.put, List.setIfInBounds_toArray, List.set_cons_zero, List.set_cons_succ])
                        clear hwq
                        refine wpAnyK_take Later.refl (fun _ _ _ h k => h.trans k) (fun _ _ h k => h.trans k) (i := 10) (oi := { dst := some 203, op := _, type := _, pos := _, after := _, guard := _ }) (v := ?_) rfl (by kernel_rfl) (by kernel_rfl) (by kernel_rfl) (fun _ _ _ h => h) (Or.inl (Or.inl ⟨by rfl, ?_⟩)) hS ?_
                        rotate_left
                        focus ((intro w hSw; (try dsimp only at hSw); have lc := hSw.cell HLC.out; go_simp); (try with_reducible rfl))
                        intro wq hwq
                        replace hS := hS.trans hwq
                        (try simp only [Act.put, List.setIfInBounds_toArray, List.set_cons_zero, List.set_cons_succ])
                        clear hwq
                        refine wpAnyK_take Later.refl (fun _ _ _ h k => h.trans k) (fun _ _ h k => h.trans k) (i := 11) (oi := { dst := some 204, op := _, type := _, pos := _, after := _, guard := _ }) (v := ?_) rfl (by kernel_rfl) (by kernel_rfl) (by kernel_rfl) (fun _ _ _ h => h) (Or.inl (Or.inl ⟨by rfl, ?_⟩)) hS ?_
                        rotate_left
                        focus ((intro w hSw; (try dsimp only at hSw); skip; go_simp); (try with_reducible rfl))
                        intro wq hwq
                        replace hS := hS.trans hwq
                        (try simp only [Act.put, List.setIfInBounds_toArray, List.set_cons_zero, List.set_cons_succ])
                        clear hwq
                        refine wpAnyK_take Later.refl (fun _ _ _ h k => h.trans k) (fun _ _ h k => h.trans k) (i := 12) (oi := { dst := some 205, op := _, type := _, pos := _, after := _, guard := _ }) (v := .bool true) rfl (by kernel_rfl) (by kernel_rfl) (by kernel_rfl) (fun _ _ _ h => h) (Or.inr ⟨by rfl, 17, #[.agg #[.slice V vn vc, .int .i64 vn], .slice TA ts.length tc, .int .i64 15, .slice ZA vn zac], fun W hW => ⟨?_, HC2.out W hW⟩⟩) hS ?_
                        · first | rfl | (go_simp; done)
                        intro wq hwq
                        replace hS := hS.trans hwq
                        (try simp only [Act.put, List.setIfInBounds_toArray, List.set_cons_zero, List.set_cons_succ])
                        clear hwq
                        refine wpAnyK_take Later.refl (fun _ _ _ h k => h.trans k) (fun _ _ h k => h.trans k) (i := 13) (oi := { dst := some 206, op := _, type := _, pos := _, after := _, guard := _ }) (v := ?_) rfl (by kernel_rfl) (by kernel_rfl) (by kernel_rfl) (fun _ _ _ h => h) (Or.inl (Or.inl ⟨by rfl, ?_⟩)) hS ?_
                        rotate_left
                        focus ((intro w hSw; (try dsimp only at hSw); skip; go_simp); (try with_reducible rfl))
                        intro wq hwq
                        replace hS := hS.trans hwq
                        (try simp only [Act.put, List.setIfInBounds_toArray, List.set_cons_zero, List.set_cons_succ])
                        clear hwq
                        refine wpAnyK_take Later.refl (fun _ _ _ h k => h.trans k) (fun _ _ h k => h.trans k) (i := 14) (oi := { dst := some 207, op := _, type := _, pos := _, after := _, guard := _ }) (v := ?_) rfl (by kernel_rfl) (by kernel_rfl) (by kernel_rfl) (fun _ _ _ h => h) (Or.inl (Or.inl ⟨by rfl, ?_⟩)) hS ?_
                        rotate_left
                        focus ((intro w hSw; (try dsimp only at hSw); skip; go_simp); (try with_reducible rfl))
                        intro wq hwq
                        replace hS := hS.trans hwq
                        (try simp only [Act.put, List.setIfInBounds_toArray, List.set_cons_zero, List.set_cons_succ])
                        clear hwq
                        refine wpAnyK_take Later.refl (fun _ _ _ h k => h.trans k) (fun _ _ h k => h.trans k) (i := 15) (oi := { dst := some 208, op := _, type := _, pos := _, after := _, guard := _ }) (v := ?_) rfl (by kernel_rfl) (by kernel_rfl) (by kernel_rfl) (fun _ _ _ h => h) (Or.inl (Or.inl ⟨by rfl, ?_⟩)) hS ?_
                        rotate_left
                        focus ((intro w hSw; (try dsimp only at hSw); skip; go_simp); (try with_reducible rfl))
                        intro wq hwq
                        replace hS := hS.trans hwq
                        (try simp only [Act.put, List.setIfInBounds_toArray, List.set_cons_zero, List.set_cons_succ])
                        clear hwq
                        refine wpAnyK_take Later.refl (fun _ _ _ h k => h.trans k) (fun _ _ h k => h.trans k) (i := 16) (oi := { dst := some 209, op := _, type := _, pos := _, after := _, guard := _ }) (v := ?_) rfl (by kernel_rfl) (by kernel_rfl) (by kernel_rfl) (fun _ _ _ h => h) (Or.inl (Or.inl ⟨by rfl, ?_⟩)) hS ?_
                        rotate_left
                        focus ((intro w hSw; (try dsimp only at hSw); skip; go_simp); (try with_reducible rfl))
                        intro wq hwq
                        replace hS := hS.trans hwq
                        (try simp only [Act.put, List.setIfInBounds_toArray, List.set_cons_zero, List.set_cons_succ])
                        clear hwq
                        refine wpAnyK_take Later.refl (fun _ _ _ h k => h.trans k) (fun _ _ h k => h.trans k) (i := 17) (oi := { dst := some 210, op := _, type := _, pos := _, after := _, guard := _ }) (v := ?_) rfl (by kernel_rfl) (by kernel_rfl) (by kernel_rfl) (fun _ _ _ h => h) (Or.inl (Or.inl ⟨by rfl, ?_⟩)) hS ?_
                        rotate_left
                        focus ((intro w hSw; (try dsimp only at hSw); skip; go_simp); (try with_reducible rfl))
                        intro wq hwq
                        replace hS := hS.trans hwq
                        (try simp only [Act.put, List.setIfInBounds_toArray, List.set_cons_zero, List.set_cons_succ])
                        clear hwq
                        refine wpAnyK_take Later.refl (fun _ _ _ h k => h.trans k) (fun _ _ h k => h.trans k) (i := 18) (oi := { dst := some 211, op := _, type := _, pos := _, after := _, guard := _ }) (v := ?_) rfl (by kernel_rfl) (by kernel_rfl) (by kernel_rfl) (fun _ _ _ h => h) (Or.inl (Or.inl ⟨by rfl, ?_⟩)) hS ?_
                        rotate_left
                        focus ((intro w hSw; (try dsimp only at hSw); skip; go_simp); (try with_reducible rfl))
                        intro wq hwq
                        replace hS := hS.trans hwq
                        (try simp only [Act.put, List.setIfInBounds_toArray, List.set_cons_zero, List.set_cons_succ])
                        clear hwq
                        refine wpAnyK_take Later.refl (fun _ _ _ h k => h.trans k) (fun _ _ h k => h.trans k) (i := 19) (oi := { dst := some 212, op := _, type := _, pos := _, after := _, guard := _ }) (v := ?_) rfl (by kernel_rfl) (by kernel_rfl) (by kernel_rfl) (fun _ _ _ h => h) (Or.inl (Or.inl ⟨by rfl, ?_⟩)) hS ?_
                        rotate_left
                        focus ((intro w hSw; (try dsimp only at hSw); skip; go_simp); (try with_reducible rfl))
                        intro wq hwq
                        replace hS := hS.trans hwq
                        (try simp only [Act.put, List.setIfInBounds_toArray, List.set_cons_zero, List.set_cons_succ])
                        clear hwq
                        refine wpAnyK_take Later.refl (fun _ _ _ h k => h.trans k) (fun _ _ h k => h.trans k) (i := 20) (oi := { dst := some 213, op := _, type := _, pos := _, after := _, guard := _ }) (v := ?_) rfl (by kernel_rfl) (by kernel_rfl) (by kernel_rfl) (fun _ _ _ h => h) (Or.inl (Or.inl ⟨by rfl, ?_⟩)) hS ?_
                        rotate_left
                        focus ((intro w hSw; (try dsimp only at hSw); skip; go_simp); (try with_reducible rfl))
                        intro wq hwq
                        replace hS := hS.trans hwq
                        (try simp only [Act.put, List.setIfInBounds_toArray, List.set_cons_zero, List.set_cons_succ])
                        clear hwq
                        refine wpAnyK_take Later.refl (fun _ _ _ h k => h.trans k) (fun _ _ h k => h.trans k) (i := 21) (oi := { dst := some 214, op := _, type := _, pos := _, after := _, guard := _ }) (v := ?_) rfl (by kernel_rfl) (by kernel_rfl) (by kernel_rfl) (fun _ _ _ h => h) (Or.inl (Or.inl ⟨by rfl, ?_⟩)) hS ?_
                        rotate_left
                        focus ((intro w hSw; (try dsimp only at hSw); skip; go_simp); (try with_reducible rfl))
                        intro wq hwq
                        replace hS := hS.trans hwq
                        (try simp only [Act.put, List.setIfInBounds_toArray, List.set_cons_zero, List.set_cons_succ])
                        clear hwq
                        refine wpAnyK_take Later.refl (fun _ _ _ h k => h.trans k) (fun _ _ h k => h.trans k) (i := 22) (oi := { dst := some 215, op := _, type := _, pos := _, after := _, guard := _ }) (v := ?_) rfl (by kernel_rfl) (by kernel_rfl) (by kernel_rfl) (fun _ _ _ h => h) (Or.inl (Or.inl ⟨by rfl, ?_⟩)) hS ?_
                        rotate_left
                        focus ((intro w hSw; (try dsimp only at hSw); skip; go_simp); (try with_reducible rfl))
                        intro wq hwq
                        replace hS := hS.trans hwq
                        (try simp only [Act.put, List.setIfInBounds_toArray, List.set_cons_zero, List.set_cons_succ])
                        clear hwq
                        refine wpAnyK_done (by kernel_rfl) ?_ _
                        have HS2 := Lib.hid hS
                        clear hS
                        go_wp2_with fail
                        go_meet
                        exact ⟨by simp, HS2.out⟩
                      · have hd : decide ((0 : Int) < (sel.length : Int)) = false := by rw [decide_eq_false_iff_not]; omega
                        have hd2 : decide (0 < sel.length) = false := by rw [decide_eq_false_iff_not]; omega
                        clear hp
                        refine wp_region_K (S := fun W : World => Later W4 W) (R := Later) (fun _ => Later.refl _) (by kernel_rfl) ?_
                        have hS : (fun W : World => Later W4 W) W4.drew := (Later.refl W4).drew
                        refine wpAnyK_take Later.refl (fun _ _ _ h k => h.trans k) (fun _ _ h k => h.trans k) (i := 0) (oi := { dst := some 193, op := _, type := _, pos := _, after := _, guard := _ }) (v := ?_) rfl (by kernel_rfl) (by kernel_rfl) (by kernel_rfl) (fun _ _ _ h => h) (Or.inl (Or.inl ⟨by rfl, ?_⟩)) hS ?_
                        rotate_left
                        focus ((intro w hSw; (try dsimp only at hSw); skip; go_simp); (try with_reducible rfl))
                        intro wq hwq
                        replace hS := hS.trans hwq
                        (try simp only [Act.put, List.setIfInBounds_toArray, List.set_cons_zero, List.set_cons_succ])
                        clear hwq
                        refine wpAnyK_take Later.refl (fun _ _ _ h k => h.trans k) (fun _ _ h k => h.trans k) (i := 1) (oi := { dst := some 194, op := _, type := _, pos := _, after := _, guard := _ }) (v := ?_) rfl (by kernel_rfl) (by kernel_rfl) (by kernel_rfl) (fun _ _ _ h => h) (Or.inl (Or.inl ⟨by rfl, ?_⟩)) hS ?_
                        rotate_left
                        focus ((intro w hSw; (try dsimp only at hSw); skip; go_simp); (try with_reducible rfl))
                        intro wq hwq
                        replace hS := hS.trans hwq
                        (try simp only [Act.put, List.setIfInBounds_toArray, List.set_cons_zero, List.set_cons_succ])
                        clear hwq
                        refine wpAnyK_take Later.refl (fun _ _ _ h k => h.trans k) (fun _ _ h k => h.trans k) (i := 2) (oi := { dst := some 195, op := _, type := _, pos := _, after := _, guard := _ }) (v := ?_) rfl (by kernel_rfl) (by kernel_rfl) (by kernel_rfl) (fun _ _ _ h => h) (Or.inl (Or.inl ⟨by rfl, ?_⟩)) hS ?_
                        rotate_left
                        focus ((intro w hSw; (try dsimp only at hSw); skip; go_simp); (try with_reducible rfl))
                        intro wq hwq
                        replace hS := hS.trans hwq
                        (try simp only [Act.put, List.setIfInBounds_toArray, List.set_cons_zero, List.set_cons_succ])
                        clear hwq
                        refine wpAnyK_take Later.refl (fun _ _ _ h k => h.trans k) (fun _ _ h k => h.trans k) (i := 3) (oi := { dst := some 196, op := _, type := _, pos := _, after := _, guard := _ }) (v := ?_) rfl (by kernel_rfl) (by kernel_rfl) (by kernel_rfl) (fun _ _ _ h => h) (Or.inl (Or.inl ⟨by rfl, ?_⟩)) hS ?_
                        rotate_left
                        focus ((intro w hSw; (try dsimp only at hSw); skip; go_simp); (try with_reducible rfl))
                        intro wq hwq
                        replace hS := hS.trans hwq
                        (try simp only [Act.put, List.setIfInBounds_toArray, List.set_cons_zero, List.set_cons_succ])
                        clear hwq
                        refine wpAnyK_take Later.refl (fun _ _ _ h k => h.trans k) (fun _ _ h k => h.trans k) (i := 4) (oi := { dst := some 197, op := _, type := _, pos := _, after := _, guard := _ }) (v := ?_) rfl (by kernel_rfl) (by kernel_rfl) (by kernel_rfl) (fun _ _ _ h => h) (Or.inl (Or.inl ⟨by rfl, ?_⟩)) hS ?_
                        rotate_left
                        focus ((intro w hSw; (try dsimp only at hSw); skip; go_simp); (try with_reducible rfl))
                        intro wq hwq
                        replace hS := hS.trans hwq
                        (try simp only [Act.put, List.setIfInBounds_toArray, List.set_cons_zero, List.set_cons_succ])
                        clear hwq
                        refine wpAnyK_take Later.refl (fun _ _ _ h k => h.trans k) (fun _ _ h k => h.trans k) (i := 5) (oi := { dst := some 198, op := _, type := _, pos := _, after := _, guard := _ }) (v := ?_) rfl (by kernel_rfl) (by kernel_rfl) (by kernel_rfl) (fun _ _ _ h => h) (Or.inl (Or.inl ⟨by rfl, ?_⟩)) hS ?_
                        rotate_left
                        focus ((intro w hSw; (try dsimp only at hSw); skip; go_simp); (try with_reducible rfl))
                        intro wq hwq
                        replace hS := hS.trans hwq
                        (try simp only [Act.put, List.setIfInBounds_toArray, List.set_cons_zero, List.set_cons_succ])
                        clear hwq
                        refine wpAnyK_take Later.refl (fun _ _ _ h k => h.trans k) (fun _ _ h k => h.trans k) (i := 6) (oi := { dst := some 199, op := _, type := _, pos := _, after := _, guard := _ }) (v := ?_) rfl (by kernel_rfl) (by kernel_rfl) (by kernel_rfl) (fun _ _ _ h => h) (Or.inl (Or.inl ⟨by rfl, ?_⟩)) hS ?_
                        rotate_left
                        focus ((intro w hSw; (try dsimp only at hSw); have s0 := (HSB.out.later hSw).cell 0 _ rfl; have s1 := (HSB.out.later hSw).cell 1 _ rfl; go_simp); (try with_reducible rfl))
                        intro wq hwq
                        replace hS := hS.trans hwq
                        (try simp only [Act.put, List.setIfInBounds_toArray, List.set_cons_zero, List.set_cons_succ])
                        clear hwq
                        refine wpAnyK_take Later.refl (fun _ _ _ h k => h.trans k) (fun _ _ h k => h.trans k) (i := 7) (oi := { dst := some 200, op := _, type := _, pos := _, after := _, guard := _ }) (v := ?_) rfl (by kernel_rfl) (by kernel_rfl) (by kernel_rfl) (fun _ _ _ h => h) (Or.inl (Or.inl ⟨by rfl, ?_⟩)) hS ?_
                        rotate_left
                        focus ((intro w hSw; (try dsimp only at hSw); skip; go_simp); (try with_reducible rfl))
                        intro wq hwq
                        replace hS := hS.trans hwq
                        (try simp only [Act.put, List.setIfInBounds_toArray, List.set_cons_zero, List.set_cons_succ])
                        clear hwq
                        refine wpAnyK_take Later.refl (fun _ _ _ h k => h.trans k) (fun _ _ h k => h.trans k) (i := 8) (oi := { dst := some 201, op := _, type := _, pos := _, after := _, guard := _ }) (v := ?_) rfl (by kernel_rfl) (by kernel_rfl) (by kernel_rfl) (fun _ _ _ h => h) (Or.inl (Or.inl ⟨by rfl, ?_⟩)) hS ?_
                        rotate_left
                        focus ((intro w hSw; (try dsimp only at hSw); skip; go_simp); (try with_reducible rfl))
                        intro wq hwq
                        replace hS := hS.trans hwq
                        (try simp only [Act.put, List.setIfInBounds_toArray, List.set_cons_zero, List.set_cons_succ])
                        clear hwq
                        refine wpAnyK_take Later.refl (fun _ _ _ h k => h.trans k) (fun _ _ h k => h.trans k) (i := 9) (oi := { dst := some 202, op := _, type := _, pos := _, after := _, guard := _ }) (v := ?_) rfl (by kernel_rfl) (by kernel_rfl) (by kernel_rfl) (fun _ _ _ h => h) (Or.inl (Or.inl ⟨by rfl, ?_⟩)) hS ?_
                        rotate_left
                        focus ((intro w hSw; (try dsimp only at hSw); skip; go_simp); (try with_reducible rfl))
                        intro wq hwq
                        replace hS := hS.trans hwq
                        (try simp only [Act.put, List.setIfInBounds_toArray, List.set_cons_zero, List.set_cons_succ])
                        clear hwq
                        refine wpAnyK_take Later.refl (fun _ _ _ h k => h.trans k) (fun _ _ h k => h.trans k) (i := 10) (oi := { dst := some 203, op := _, type := _, pos := _, after := _, guard := _ }) (v := ?_) rfl (by kernel_rfl) (by kernel_rfl) (by kernel_rfl) (fun _ _ _ h => h) (Or.inl (Or.inl ⟨by rfl, ?_⟩)) hS ?_
                        rotate_left
                        focus ((intro w hSw; (try dsimp only at hSw); have lc := hSw.cell HLC.out; go_simp); (try with_reducible rfl))
                        intro wq hwq
                        replace hS := hS.trans hwq
                        (try simp only [Act.put, List.setIfInBounds_toArray, List.set_cons_zero, List.set_cons_succ])
                        clear hwq
                        refine wpAnyK_take Later.refl (fun _ _ _ h k => h.trans k) (fun _ _ h k => h.trans k) (i := 11) (oi := { dst := some 204, op := _, type := _, pos := _, after := _, guard := _ }) (v := ?_) rfl (by kernel_rfl) (by kernel_rfl) (by kernel_rfl) (fun _ _ _ h => h) (Or.inl (Or.inl ⟨by rfl, ?_⟩)) hS ?_
                        rotate_left
                        focus ((intro w hSw; (try dsimp only at hSw); skip; go_simp); (try with_reducible rfl))
                        intro wq hwq
                        replace hS := hS.trans hwq
                        (try simp only [Act.put, List.setIfInBounds_toArray, List.set_cons_zero, List.set_cons_succ])
                        clear hwq
                        refine wpAnyK_take Later.refl (fun _ _ _ h k => h.trans k) (fun _ _ h k => h.trans k) (i := 12) (oi := { dst := some 205, op := _, type := _, pos := _, after := _, guard := _ }) (v := .bool cn) rfl (by kernel_rfl) (by kernel_rfl) (by kernel_rfl) (fun _ _ _ h => h) (Or.inr ⟨by rfl, 17, #[.agg #[.slice V vn vc, .int .i64 vn], .slice TA ts.length tc, .int .i64 15, .slice ZA vn zac], fun W hW => ⟨?_, HC2.out W hW⟩⟩) hS ?_
                        · first | rfl | (go_simp; done)
                        intro wq hwq
                        replace hS := hS.trans hwq
                        (try simp only [Act.put, List.setIfInBounds_toArray, List.set_cons_zero, List.set_cons_succ])
                        clear hwq
                        refine wpAnyK_take Later.refl (fun _ _ _ h k => h.trans k) (fun _ _ h k => h.trans k) (i := 13) (oi := { dst := some 206, op := _, type := _, pos := _, after := _, guard := _ }) (v := ?_) rfl (by kernel_rfl) (by kernel_rfl) (by kernel_rfl) (fun _ _ _ h => h) (Or.inl (Or.inl ⟨by rfl, ?_⟩)) hS ?_
                        rotate_left
                        focus ((intro w hSw; (try dsimp only at hSw); skip; go_simp); (try with_reducible rfl))
                        intro wq hwq
                        replace hS := hS.trans hwq
                        (try simp only [Act.put, List.setIfInBounds_toArray, List.set_cons_zero, List.set_cons_succ])
                        clear hwq
                        refine wpAnyK_take Later.refl (fun _ _ _ h k => h.trans k) (fun _ _ h k => h.trans k) (i := 14) (oi := { dst := some 207, op := _, type := _, pos := _, after := _, guard := _ }) (v := ?_) rfl (by kernel_rfl) (by kernel_rfl) (by kernel_rfl) (fun _ _ _ h => h) (Or.inl (Or.inl ⟨by rfl, ?_⟩)) hS ?_
                        rotate_left
                        focus ((intro w hSw; (try dsimp only at hSw); skip; go_simp); (try with_reducible rfl))
                        intro wq hwq
                        replace hS := hS.trans hwq
                        (try simp only [Act.put, List.setIfInBounds_toArray, List.set_cons_zero, List.set_cons_succ])
                        clear hwq
                        refine wpAnyK_take Later.refl (fun _ _ _ h k => h.trans k) (fun _ _ h k => h.trans k) (i := 15) (oi := { dst := some 208, op := _, type := _, pos := _, after := _, guard := _ }) (v := ?_) rfl (by kernel_rfl) (by kernel_rfl) (by kernel_rfl) (fun _ _ _ h => h) (Or.inl (Or.inl ⟨by rfl, ?_⟩)) hS ?_
                        rotate_left
                        focus ((intro w hSw; (try dsimp only at hSw); skip; go_simp); (try with_reducible rfl))
                        intro wq hwq
                        replace hS := hS.trans hwq
                        (try simp only [Act.put, List.setIfInBounds_toArray, List.set_cons_zero, List.set_cons_succ])
                        clear hwq
                        refine wpAnyK_take Later.refl (fun _ _ _ h k => h.trans k) (fun _ _ h k => h.trans k) (i := 16) (oi := { dst := some 209, op := _, type := _, pos := _, after := _, guard := _ }) (v := ?_) rfl (by kernel_rfl) (by kernel_rfl) (by kernel_rfl) (fun _ _ _ h => h) (Or.inl (Or.inl ⟨by rfl, ?_⟩)) hS ?_
                        rotate_left
                        focus ((intro w hSw; (try dsimp only at hSw); skip; go_simp); (try with_reducible rfl))
                        intro wq hwq
                        replace hS := hS.trans hwq
                        (try simp only [Act.put, List.setIfInBounds_toArray, List.set_cons_zero, List.set_cons_succ])
                        clear hwq
                        refine wpAnyK_take Later.refl (fun _ _ _ h k => h.trans k) (fun _ _ h k => h.trans k) (i := 17) (oi := { dst := some 210, op := _, type := _, pos := _, after := _, guard := _ }) (v := ?_) rfl (by kernel_rfl) (by kernel_rfl) (by kernel_rfl) (fun _ _ _ h => h) (Or.inl (Or.inl ⟨by rfl, ?_⟩)) hS ?_
                        rotate_left
                        focus ((intro w hSw; (try dsimp only at hSw); skip; go_simp); (try with_reducible rfl))
                        intro wq hwq
                        replace hS := hS.trans hwq
                        (try simp only [Act.put, List.setIfInBounds_toArray, List.set_cons_zero, List.set_cons_succ])
                        clear hwq
                        refine wpAnyK_take Later.refl (fun _ _ _ h k => h.trans k) (fun _ _ h k => h.trans k) (i := 18) (oi := { dst := some 211, op := _, type := _, pos := _, after := _, guard := _ }) (v := ?_) rfl (by kernel_rfl) (by kernel_rfl) (by kernel_rfl) (fun _ _ _ h => h) (Or.inl (Or.inl ⟨by rfl, ?_⟩)) hS ?_
                        rotate_left
                        focus ((intro w hSw; (try dsimp only at hSw); skip; go_simp); (try with_reducible rfl))
                        intro wq hwq
                        replace hS := hS.trans hwq
                        (try simp only [Act.put, List.setIfInBounds_toArray, List.set_cons_zero, List.set_cons_succ])
                        clear hwq
                        refine wpAnyK_take Later.refl (fun _ _ _ h k => h.trans k) (fun _ _ h k => h.trans k) (i := 19) (oi := { dst := some 212, op := _, type := _, pos := _, after := _, guard := _ }) (v := undef) rfl (by kernel_rfl) (by kernel_rfl) (by kernel_rfl) (fun _ _ _ h => h) (Or.inl (Or.inr ⟨by rfl, rfl⟩)) hS ?_
                        intro wq hwq
                        replace hS := hS.trans hwq
                        (try simp only [Act.put, List.setIfInBounds_toArray, List.set_cons_zero, List.set_cons_succ])
                        clear hwq
                        refine wpAnyK_take Later.refl (fun _ _ _ h k => h.trans k) (fun _ _ h k => h.trans k) (i := 20) (oi := { dst := some 213, op := _, type := _, pos := _, after := _, guard := _ }) (v := undef) rfl (by kernel_rfl) (by kernel_rfl) (by kernel_rfl) (fun _ _ _ h => h) (Or.inl (Or.inr ⟨by rfl, rfl⟩)) hS ?_
                        intro wq hwq
                        replace hS := hS.trans hwq
                        (try simp only [Act.put, List.setIfInBounds_toArray, List.set_cons_zero, List.set_cons_succ])
                        clear hwq
                        refine wpAnyK_take Later.refl (fun _ _ _ h k => h.trans k) (fun _ _ h k => h.trans k) (i := 21) (oi := { dst := some 214, op := _, type := _, pos := _, after := _, guard := _ }) (v := ?_) rfl (by kernel_rfl) (by kernel_rfl) (by kernel_rfl) (fun _ _ _ h => h) (Or.inl (Or.inl ⟨by rfl, ?_⟩)) hS ?_
                        rotate_left
                        focus ((intro w hSw; (try dsimp only at hSw); skip; go_simp); (try with_reducible rfl))
                        intro wq hwq
                        replace hS := hS.trans hwq
                        (try simp only [Act.put, List.setIfInBounds_toArray, List.set_cons_zero, List.set_cons_succ])
                        clear hwq
                        refine wpAnyK_take Later.refl (fun _ _ _ h k => h.trans k) (fun _ _ h k => h.trans k) (i := 22) (oi := { dst := some 215, op := _, type := _, pos := _, after := _, guard := _ }) (v := ?_) rfl (by kernel_rfl) (by kernel_rfl) (by kernel_rfl) (fun _ _ _ h => h) (Or.inl (Or.inl ⟨by rfl, ?_⟩)) hS ?_
                        rotate_left
                        focus ((intro w hSw; (try dsimp only at hSw); skip; go_simp); (try with_reducible rfl))
                        intro wq hwq
                        replace hS := hS.trans hwq
                        (try simp only [Act.put, List.setIfInBounds_toArray, List.set_cons_zero, List.set_cons_succ])
                        clear hwq
                        refine wpAnyK_done (by kernel_rfl) ?_ _
                        have HS2 := Lib.hid hS
                        clear hS
                        go_wp2_with fail
                        go_meet
                        exact ⟨by simp, HS2.out⟩
                    case rest =>
                    obtain ⟨rfl, lx⟩ := hcut
                    have HLZ := Lib.hid (HLAT.out.trans lx)
                    clear lx
                    go_wp2_with fail
                    go_roundw
                    case rel => exact ⟨j + 1, by go_num, by omega, HLZ.out⟩
                    case measure => simp [intOf]; omega
              · have hcb : (cv != 0) = true := by simp [hc0]
                clear hc0
                go_wp2_with fail
                go_roundw
                case rel => exact ⟨j + 1, by go_num, by omega, HLAT.out⟩
                case measure => simp [intOf]; omega
            · obtain rfl : j = 4 := by omega
              have HLZ := Lib.hid (HL8.out.trans lat)
              clear lat
              go_wp2_with fail
              go_ret
              exact ⟨rfl, HLZ.out⟩
end Go.Proofs.YtkdpjocglfephaaDoor
