
import Derived.Test.YtklohbglkbhjhaaDoorPlayS
import Derived.Test.YtklohbglkbhjhaaDoorStayM
import Derived.Test.YtklohbglkbhjhaaDoorChgE
import Derived.Test.YtklohbglkbhjhaaDoorRowsM
import Derived.Test.YtklohbglkbhjhaaDoorSchC
import Derived.Test.YtklohbglkbhjhaaDoorBase
import Derived.Test.YtklohbglkbhjhaaDoorPlayV
import Derived.Test.YtklohbglkbhjhaaDoorPlayN
import Derived.Test.YtklohbglkbhjhaaDoorSchA
import Derived.Deep.CutBlock
import Derived.Deep.MidRow
import Derived.Laws.Rows
import Derived.WalkKit
import Derived.Laws.OwnMore
import Derived.Laws.BytesArg
import Derived.Deep.AppendLies
import Derived.Deep.Draws
import Derived.Test.YtklohbglkbhjhaaDoorChecked
import Derived.Deep.OwnRows
import Derived.Lib.Hide
import Derived.Deep.Quiet
import Derived.Laws.AppendOwnNone
import Derived.Lib.Strings
import Derived.Outline
import Derived.WalkLawsBesides
import Derived.WalkSpells
import Derived.PlainAid
import Derived.Deep.QuietTactic
import Derived.BigQuiet
import Derived.RegionTactic
import Derived.BigRegion
import Derived.Handy
import Derived.Laws.BitsAllLaws
import Derived.Deep.RegionWith
import Derived.Lib.AppendStr
import Derived.Deep.RegionLaw
import Derived.Maps.AppendAt
import Derived.OpenShut
import Derived.WideShapes
import Derived.ChangeArms
import Derived.Deep.Slices
import Derived.Sort.Grow
import Derived.Lib.SliceRun
import Derived.Shelf.Spec.SlicesInsert
import Derived.Lib.Overlaps
import Derived.Lib.AppendZerosOnto
import Derived.OrdersHeld
import Derived.LaidEql
import Derived.Stop.Asserts
import Derived.RowKitTokens
import Derived.Stop.IfaceNil
import Derived.Laws.BitsLemmas
import Derived.Laws.Bits64
import Derived.WalkSmall
import Derived.Lib.Bytealg
import Derived.Deep.SlicePairs
import Derived.Shelf.Abstract
import Derived.Lib.QuietBelow
import Derived.Deep.CutRange
/- The walk of rabbetplay's col and Change. (tools/gen_playC.py) -/








namespace Go.Proofs.YtklohbglkbhjhaaDoor
open Go.RowKit
set_option linter.unusedVariables false

/-- What col answers. -/
def ColP (g : Nat) (A : Option Addr) (n c : Nat) (bs : List Nat) (w : World) (e : Ending) (w' : World) : Prop := ∃ id : Int, e = .returned (.int .i64 id) ∧ Pks w' g A n c bs ∧ Far g w w'
set_option maxRecDepth 100000 in
set_option maxHeartbeats 8000000 in
theorem col_any (g : Nat) (A : Option Addr) (n c : Nat) (bs : List Nat) (V : Option Addr) (vn vc : Nat) (last : Int) (xs : List Col3) (w : World) (hc : PkC n bs) (hp : Pks w g A n c bs) (hvn : vn = xs.length) (hl : 1 ≤ vn ∧ vn ≤ 1000) (hV : HasX (some g) w V (fc xs)) :
    Calls Tryd.prog 37 #[.pointer (some ⟨g, 0, none⟩), .agg #[.slice V vn vc, .int .i64 last]] w (ColP g A n c bs w) := by
  obtain ⟨h0, hh0⟩ : ∃ x, w.heap.size = x := ⟨_, rfl⟩
  have HCC := Lib.hid hc
  have HG := Lib.hid (show g < h0 by rw [← hh0]; exact hp.lt)
  obtain ⟨w1, hw1⟩ : ∃ x : World, w.alloc (.cells #[.slice V vn vc, .int .i64 last] 24) = x := ⟨_, rfl⟩
  have l1 : Later w w1 := hw1 ▸ Later.new w _
  have HB0 := Lib.hid (show Blk w1 h0 #[.slice V vn vc, .int .i64 last] 24 from hw1 ▸ Blk.new w _ _ h0 hh0.symm)
  have HF1 := Lib.hid (Far.of hp.lt l1)
  have HP1 := Lib.hid (hp.later l1)
  have HV1 := Lib.hid (hV.later l1)
  have HVN := Lib.hid hvn
  have HW1 := Lib.hid hw1
  have hg1 : g < w1.heap.size := Nat.lt_of_lt_of_le hp.lt l1.size
  obtain ⟨vb, voff, hVA, -⟩ := HV1.out.has.col3 0 (by have := HVN.out; omega)
  subst hVA
  have HCK := Lib.hid (fun W (f : Far g w1 W) k hk => by
    obtain ⟨b', off', hA', w0', _⟩ := (HV1.out.far f).has.col3 k hk
    injection hA' with hA'; injection hA' with e1 e2
    subst e1 e2
    exact w0' : ∀ W, Far g w1 W → ∀ k (hk : k < xs.length), W.cell? ⟨vb, voff + k * 3, none⟩ = some (.int .i64 xs[k].1))
  have HSC := Lib.hid (fun W (f : Far g w1 W) => (f.blk HB0.out (by have := HG.out; omega)).cell 0 _ rfl : ∀ W, Far g w1 W → W.cell? ⟨h0, 0, none⟩ = some (.slice (some ⟨vb, voff, none⟩) vn vc))
  clear l1 hw1 hp hc hV hvn HB0 HV1
  go_enter Tryd.func37, Tryd.ntmps37
  go_upto_region 1 with fail
  rw [HW1.out]
  clear HW1 hh0
  refine wp_region_K (S := (fun W : World => Far g w1 W)) (R := fun a b => a = b) (fun _ => rfl) (by kernel_rfl) ?_
  obtain ⟨y0, hy0⟩ : ∃ x, (w1).drew = x := ⟨_, rfl⟩
  have hS : (fun W : World => Far g w1 W) y0 := hy0 ▸ (Far.of hg1 (Later.refl w1).drew)
  have HP := Lib.hid (show Pks y0 g A n c bs from hy0 ▸ HP1.out.later (Later.refl w1).drew)
  rw [hy0]
  clear hy0
  refine wpAnyK_take (fun _ => rfl) (fun _ _ _ h k => h.trans k) (fun _ _ h k => k ▸ h) (i := 0) (oi := { dst := some 5, op := _, type := _, pos := _, after := _, guard := _ }) (v := ?_) rfl (by kernel_rfl) (by kernel_rfl) (by kernel_rfl) (fun _ _ _ h => h) (Or.inl (Or.inl ⟨by rfl, ?_⟩)) hS ?_
  rotate_left
  focus ((intro w hSw; (try dsimp only at hSw); have d0 := HSC.out w hSw; go_simp); (try with_reducible rfl))
  intro wq hwq
  subst hwq
  (try simp only [Act.put, List.setIfInBounds_toArray, List.set_cons_zero, List.set_cons_succ])
  refine wpAnyK_take (fun _ => rfl) (fun _ _ _ h k => h.trans k) (fun _ _ h k => k ▸ h) (i := 1) (oi := { dst := some 6, op := _, type := _, pos := _, after := _, guard := _ }) (v := ?_) rfl (by kernel_rfl) (by kernel_rfl) (by kernel_rfl) (fun _ _ _ h => h) (Or.inl (Or.inl ⟨by rfl, ?_⟩)) hS ?_
  rotate_left
  focus ((intro w hSw; (try dsimp only at hSw); have d0 := HSC.out w hSw; go_simp); (try with_reducible rfl))
  intro wq hwq
  subst hwq
  (try simp only [Act.put, List.setIfInBounds_toArray, List.set_cons_zero, List.set_cons_succ])
  refine wpAnyK_take (fun _ => rfl) (fun _ _ _ h k => h.trans k) (fun _ _ h k => k ▸ h) (i := 2) (oi := { dst := some 7, op := _, type := _, pos := _, after := _, guard := _ }) (v := ?_) rfl (by kernel_rfl) (by kernel_rfl) (by kernel_rfl) (fun _ _ _ h => h) (Or.inl (Or.inl ⟨by rfl, ?_⟩)) hS ?_
  rotate_left
  focus ((intro w hSw; (try dsimp only at hSw); have d0 := HSC.out w hSw; go_simp); (try with_reducible rfl))
  intro wq hwq
  subst hwq
  (try simp only [Act.put, List.setIfInBounds_toArray, List.set_cons_zero, List.set_cons_succ])
  refine wpAnyK_take (fun _ => rfl) (fun _ _ _ h k => h.trans k) (fun _ _ h k => k ▸ h) (i := 3) (oi := { dst := some 8, op := _, type := _, pos := _, after := _, guard := _ }) (v := ?_) rfl (by kernel_rfl) (by kernel_rfl) (by kernel_rfl) (fun _ _ _ h => h) (Or.inl (Or.inl ⟨by rfl, ?_⟩)) hS ?_
  rotate_left
  focus ((intro w hSw; (try dsimp only at hSw); have d0 := HSC.out w hSw; go_simp); (try with_reducible rfl))
  intro wq hwq
  subst hwq
  (try simp only [Act.put, List.setIfInBounds_toArray, List.set_cons_zero, List.set_cons_succ])
  refine wpAnyK_take (fun _ => rfl) (fun _ _ _ h k => h.trans k) (fun _ _ h k => k ▸ h) (i := 4) (oi := { dst := some 9, op := _, type := _, pos := _, after := _, guard := _ }) (v := ?_) rfl (by kernel_rfl) (by kernel_rfl) (by kernel_rfl) (fun _ _ _ h => h) (Or.inl (Or.inl ⟨by rfl, ?_⟩)) hS ?_
  rotate_left
  focus ((intro w hSw; (try dsimp only at hSw); have d0 := HSC.out w hSw; go_simp); (try with_reducible rfl))
  intro wq hwq
  subst hwq
  (try simp only [Act.put, List.setIfInBounds_toArray, List.set_cons_zero, List.set_cons_succ])
  refine wpAnyK_take (fun _ => rfl) (fun _ _ _ h k => h.trans k) (fun _ _ h k => k ▸ h) (i := 5) (oi := { dst := some 10, op := _, type := _, pos := _, after := _, guard := _ }) (v := ?_) rfl (by kernel_rfl) (by kernel_rfl) (by kernel_rfl) (fun _ _ _ h => h) (Or.inl (Or.inl ⟨by rfl, ?_⟩)) hS ?_
  rotate_left
  focus ((intro w hSw; (try dsimp only at hSw); have d0 := HSC.out w hSw; go_simp); (try with_reducible rfl))
  intro wq hwq
  subst hwq
  (try simp only [Act.put, List.setIfInBounds_toArray, List.set_cons_zero, List.set_cons_succ])
  refine wpAnyK_all (rs := [6]) (by kernel_rfl) (by simp) (fun i hi => ?_)
  simp only [List.mem_cons, List.not_mem_nil, or_false] at hi
  subst hi
  refine stepK (o := { dst := some 11, op := _, type := _, pos := _, after := _, guard := _ }) rfl (fun K hK => ?_)
  go_simp
  refine (num_any vn g A n c bs y0 (by omega) HCC.out HP.out).mono ?_
  rintro e y1 ⟨r, hr, rfl, hp, hf⟩
  have HPN := Lib.hid hp
  have hS : (fun W : World => Far g w1 W) y1 := Far.trans hS hf
  refine hK _ _ hS fun wq hwq => ?_
  subst hwq
  clear hK hp hf
  (try simp only [Act.put, List.setIfInBounds_toArray, List.set_cons_zero, List.set_cons_succ])
  have hrx : r < xs.length := by have := HVN.out; omega
  have HID := Lib.hid (fun W f => HCK.out W f r hrx : ∀ W, Far g w1 W → W.cell? ⟨vb, voff + r * 3, none⟩ = some (.int .i64 xs[r].1))
  generalize xs[r].1 = id at HID
  have hrl : (r : Int) < (vn : Int) := by omega
  have hr0 : (0 : Int) ≤ (r : Int) := by omega
  refine wpAnyK_take (fun _ => rfl) (fun _ _ _ h k => h.trans k) (fun _ _ h k => k ▸ h) (i := 7) (oi := { dst := some 12, op := _, type := _, pos := _, after := _, guard := _ }) (v := ?_) rfl (by kernel_rfl) (by kernel_rfl) (by kernel_rfl) (fun _ _ _ h => h) (Or.inl (Or.inl ⟨by rfl, ?_⟩)) hS ?_
  rotate_left
  focus ((intro w hSw; (try dsimp only at hSw); have d0 := HSC.out w hSw; have d1 := HID.out w hSw; go_simp); (try with_reducible rfl))
  intro wq hwq
  subst hwq
  (try simp only [Act.put, List.setIfInBounds_toArray, List.set_cons_zero, List.set_cons_succ])
  refine wpAnyK_take (fun _ => rfl) (fun _ _ _ h k => h.trans k) (fun _ _ h k => k ▸ h) (i := 8) (oi := { dst := some 13, op := _, type := _, pos := _, after := _, guard := _ }) (v := ?_) rfl (by kernel_rfl) (by kernel_rfl) (by kernel_rfl) (fun _ _ _ h => h) (Or.inl (Or.inl ⟨by rfl, ?_⟩)) hS ?_
  rotate_left
  focus ((intro w hSw; (try dsimp only at hSw); have d0 := HSC.out w hSw; have d1 := HID.out w hSw; go_simp); (try with_reducible rfl))
  intro wq hwq
  subst hwq
  (try simp only [Act.put, List.setIfInBounds_toArray, List.set_cons_zero, List.set_cons_succ])
  refine wpAnyK_take (fun _ => rfl) (fun _ _ _ h k => h.trans k) (fun _ _ h k => k ▸ h) (i := 9) (oi := { dst := some 14, op := _, type := _, pos := _, after := _, guard := _ }) (v := ?_) rfl (by kernel_rfl) (by kernel_rfl) (by kernel_rfl) (fun _ _ _ h => h) (Or.inl (Or.inl ⟨by rfl, ?_⟩)) hS ?_
  rotate_left
  focus ((intro w hSw; (try dsimp only at hSw); have d0 := HSC.out w hSw; have d1 := HID.out w hSw; go_simp); (try with_reducible rfl))
  intro wq hwq
  subst hwq
  (try simp only [Act.put, List.setIfInBounds_toArray, List.set_cons_zero, List.set_cons_succ])
  refine wpAnyK_take (fun _ => rfl) (fun _ _ _ h k => h.trans k) (fun _ _ h k => k ▸ h) (i := 10) (oi := { dst := some 4, op := _, type := _, pos := _, after := _, guard := _ }) (v := ?_) rfl (by kernel_rfl) (by kernel_rfl) (by kernel_rfl) (fun _ _ _ h => h) (Or.inl (Or.inl ⟨by rfl, ?_⟩)) hS ?_
  rotate_left
  focus ((intro w hSw; (try dsimp only at hSw); have d0 := HSC.out w hSw; have d1 := HID.out w hSw; go_simp); (try with_reducible rfl))
  intro wq hwq
  subst hwq
  (try simp only [Act.put, List.setIfInBounds_toArray, List.set_cons_zero, List.set_cons_succ])
  refine wpAnyK_done (by kernel_rfl) ?_ _
  go_wp2_with fail
  go_ret
  exact ⟨id, rfl, HPN.out, HF1.out.trans hS⟩
theorem far_fill {g : Nat} {w w' : World} (h : Far g w w') {q : Nat} (hq : w.heap.size ≤ q) : ∀ (o : Nat) (vs : List Value), Far g w (w'.setCells q o vs)
  | _, [] => h
  | o, v :: vs => far_fill (h.set_new (p := ⟨q, o, none⟩) hq v) hq (o + 1) vs
theorem pks_fill {w : World} {g : Nat} {A : Option Addr} {n c : Nat} {bs : List Nat} (h : Pks w g A n c bs) {q : Nat} (hq : g < q) : ∀ (o : Nat) (vs : List Value), Pks (w.setCells q o vs) g A n c bs
  | _, [] => h
  | o, v :: vs => pks_fill (h.far (p := ⟨q, o, none⟩) hq v) hq (o + 1) vs
def cvC (c : Chg) : List Value := [.int .i64 c.kind, .int .i64 c.col, .string c.name, .int .i64 c.typ, .int .i64 c.val.1, .int .i64 c.val.2.1, .string c.val.2.2, .int .u8 c.sep, .int .i64 c.num]
def cvP (c : Chg) : List Value := [.int .i64 c.kind, .int .i64 c.col, .string c.name, .int .i64 c.typ, .int .i64 c.val.1, .int .i64 c.val.2.1, .string c.val.2.2, .int .u8 c.sep, .int .i64 c.num]
/-- What Change answers, more of it. -/
def ChangeQ (g : Nat) (A : Option Addr) (n c : Nat) (bs : List Nat) (w : World) (e : Ending) (w' : World) : Prop :=
  ∃ ch : Chg, e = .returned (.agg (cvP ch).toArray) ∧ ch.name.size ≤ 9223372036854775807 ∧ (0 ≤ ch.sep ∧ ch.sep < 256) ∧ Pks w' g A n c bs ∧ Far g w w'
/-- A change on its way. -/
structure ChW (w : World) (g : Nat) (A : Option Addr) (n c : Nat) (bs : List Nat) (g5 : Nat) (ch : Chg) (wr : World) : Prop where
  pk : Pks wr g A n c bs
  far : Far g w wr
  blk : Blk wr g5 (cvP ch).toArray 31
  res : Blk wr (w.heap.size + 1) (cvP ⟨0, 0, ⟨#[]⟩, 0, (0, 0, ⟨#[]⟩), 0, 0⟩).toArray 31
  g5 : w.heap.size + 1 < g5
  nm : ch.name.size ≤ 9223372036854775807
  sp : 0 ≤ ch.sep ∧ ch.sep < 256
section
variable {w : World} {g : Nat} {A : Option Addr} {n c : Nat} {bs : List Nat} {g5 : Nat} {ch : Chg} {wr w' : World}
theorem ChW.later (h : ChW w g A n c bs g5 ch wr) (l : Later wr w') : ChW w g A n c bs g5 ch w' := ⟨h.pk.later l, h.far.later l, h.blk.later l, h.res.later l, h.g5, h.nm, h.sp⟩
theorem ChW.to (h : ChW w g A n c bs g5 ch wr) (hp : Pks w' g A n c bs) (f : Far g wr w') : ChW w g A n c bs g5 ch w' :=
  ⟨hp, h.far.trans f, f.blk h.blk (by have := h.g5; have := h.far.1; omega), f.blk h.res (by have := h.far.1; omega), h.g5, h.nm, h.sp⟩
/-- Cells of it are written. -/
theorem ChW.set_ (h : ChW w g A n c bs g5 ch wr) (k : Nat) (v : Value) (ch' : Chg) (hc : (cvP ch).set k v = cvP ch') (hn : ch'.name.size ≤ 9223372036854775807) (hs : 0 ≤ ch'.sep ∧ ch'.sep < 256 := by simp) : ChW w g A n c bs g5 ch' (wr.setCell ⟨g5, k, none⟩ v) := by
  have hg := h.far.1
  have h5 := h.g5
  refine ⟨h.pk.far (p := ⟨g5, k, none⟩) (by show g < g5; omega) v, h.far.set_new (p := ⟨g5, k, none⟩) (by show w.heap.size ≤ g5; omega) v, ?_, h.res.far (by show w.heap.size + 1 ≠ g5; omega) v, h5, hn, hs⟩
  have hb := h.blk.set_ k v
  rw [List.setIfInBounds_toArray, hc] at hb
  exact hb
end
theorem sz0 : (⟨#[]⟩ : ByteArray).size ≤ 9223372036854775807 := by decide
theorem HasX.mk3 {w : World} {b off e : Nat} {xs : List Value} (h : Has w (some ⟨b, off, none⟩) xs) (hne : e < b) : HasX (some e) w (some ⟨b, off, none⟩) xs := by
  rcases h with h | ⟨b', off', hA, hb, hc⟩
  · exact .inl h
  · injection hA with hA; injection hA with e1 e2
    subst e1 e2
    exact .inr ⟨b, off, rfl, hb, fun e => by injection e with e; omega, hc⟩
theorem sz1 (x : UInt8) (a : Nat) : ((⟨#[x]⟩ : ByteArray) ++ bstr [a]).size ≤ 9223372036854775807 := by
  rw [ByteArray.size_append]
  show 1 + 1 ≤ 9223372036854775807
  decide

set_option maxRecDepth 100000 in
set_option maxHeartbeats 8000000 in
theorem change_playQ (g : Nat) (A : Option Addr) (n c : Nat) (bs : List Nat) (V : Option Addr) (vn vc : Nat) (last : Int) (xs : List Col3) (w : World) (hc : PkC n bs) (hp : Pks w g A n c bs) (hvn : vn = xs.length) (hl : 1 ≤ vn ∧ vn ≤ 1000) (hV : HasX (some g) w V (fc xs)) :
    Calls Tryd.prog 13 #[.pointer (some ⟨g, 0, none⟩), .agg #[.slice V vn vc, .int .i64 last]] w (ChangeQ g A n c bs w) := by
  obtain ⟨h0, hh0⟩ : ∃ x, w.heap.size = x := ⟨_, rfl⟩
  have HCC := Lib.hid hc
  have HG := Lib.hid (show g < h0 by rw [← hh0]; exact hp.lt)
  obtain ⟨w1, hw1⟩ : ∃ x : World, (w.alloc (.cells #[.slice V vn vc, .int .i64 last] 24)).alloc (.cells #[.int .i64 0, .int .i64 0, .string ⟨#[]⟩, .int .i64 0, .int .i64 0, .int .i64 0, .string ⟨#[]⟩, .int .u8 0, .int .i64 0] 31) = x := ⟨_, rfl⟩
  have l1 : Later w w1 := hw1 ▸ (Later.new w _).alloc _
  have HB0 := Lib.hid (show Blk w1 h0 #[.slice V vn vc, .int .i64 last] 24 from hw1 ▸ (Blk.new w _ _ h0 hh0.symm).later (Later.new _ _))
  have HB1 := Lib.hid (show Blk w1 (w.heap.size + 1) (cvP ⟨0, 0, ⟨#[]⟩, 0, (0, 0, ⟨#[]⟩), 0, 0⟩).toArray 31 from hw1 ▸ Blk.new _ _ _ (w.heap.size + 1) (by simp))
  have HF1 := Lib.hid (Far.of hp.lt l1)
  have HP1 := Lib.hid (hp.later l1)
  have HV1 := Lib.hid (hV.later l1)
  have HVN := Lib.hid hvn
  have HW1 := Lib.hid hw1
  have hg1 : g < w1.heap.size := Nat.lt_of_lt_of_le hp.lt l1.size
  have HS1 := Lib.hid (show w1.heap.size = w.heap.size + 2 from by rw [← hw1]; simp)
  have HCOL := Lib.hid (fun W (f : Far g w1 W) (p : Pks W g A n c bs) => col_any g A n c bs V vn vc last xs W HCC.out p HVN.out hl (HV1.out.far f))
  have HSC := Lib.hid (fun W (f : Far g w1 W) => (f.blk HB0.out (by have := HG.out; omega)).cell 0 _ rfl : ∀ W, Far g w1 W → W.cell? ⟨h0, 0, none⟩ = some (.slice V vn vc))
  have HSC1 := Lib.hid (fun W (f : Far g w1 W) => (f.blk HB0.out (by have := HG.out; omega)).cell 1 _ rfl : ∀ W, Far g w1 W → W.cell? ⟨h0, 1, none⟩ = some (.int .i64 last))
  have HH0 := Lib.hid hh0
  clear l1 hw1 hp hc hV hvn HB0 HV1
  go_enter Tryd.func13, Tryd.ntmps13
  go_upto_region 1 with fail
  rw [HW1.out]
  clear HW1 hh0
  go_cut [5] from 6 to 12 (fun pv wx => ∃ (g5 : Nat) (r : Nat) (id : Int), r < 9 ∧ pv = .pointer (some ⟨g5, 0, none⟩) ∧ ChW w g A n c bs g5 ⟨1 + (r : Int), id, ⟨#[]⟩, 0, (0, 0, ⟨#[]⟩), 0, 0⟩ wx)
  case first => as_aux_lemma =>
    refine wp_region_K (S := (fun W : World => Far g w1 W)) (R := fun a b => a = b) (fun _ => rfl) (by kernel_rfl) ?_
    obtain ⟨y0, hy0⟩ : ∃ x, (w1).drew = x := ⟨_, rfl⟩
    have hS : (fun W : World => Far g w1 W) y0 := hy0 ▸ (Far.of hg1 (Later.refl w1).drew)
    have HP := Lib.hid (show Pks y0 g A n c bs from hy0 ▸ HP1.out.later (Later.refl w1).drew)
    rw [hy0]
    clear hy0
    refine wpAnyK_take (fun _ => rfl) (fun _ _ _ h k => h.trans k) (fun _ _ h k => k ▸ h) (i := 0) (oi := { dst := some 6, op := _, type := _, pos := _, after := _, guard := _ }) (v := ?_) rfl (by kernel_rfl) (by kernel_rfl) (by kernel_rfl) (fun _ _ _ h => h) (Or.inl (Or.inl ⟨by rfl, ?_⟩)) hS ?_
    rotate_left
    focus ((intro w hSw; (try dsimp only at hSw); have d0 := HSC.out w hSw; have d1 := HSC1.out w hSw; go_simp); (try with_reducible rfl))
    intro wq hwq
    subst hwq
    (try simp only [Act.put, List.setIfInBounds_toArray, List.set_cons_zero, List.set_cons_succ])
    refine wpAnyK_take (fun _ => rfl) (fun _ _ _ h k => h.trans k) (fun _ _ h k => k ▸ h) (i := 3) (oi := { dst := some 9, op := _, type := _, pos := _, after := _, guard := _ }) (v := ?_) rfl (by kernel_rfl) (by kernel_rfl) (by kernel_rfl) (fun _ _ _ h => h) (Or.inl (Or.inl ⟨by rfl, ?_⟩)) hS ?_
    rotate_left
    focus ((intro w hSw; (try dsimp only at hSw); have d0 := HSC.out w hSw; have d1 := HSC1.out w hSw; go_simp); (try with_reducible rfl))
    intro wq hwq
    subst hwq
    (try simp only [Act.put, List.setIfInBounds_toArray, List.set_cons_zero, List.set_cons_succ])
    refine wpAnyK_take (fun _ => rfl) (fun _ _ _ h k => h.trans k) (fun _ _ h k => k ▸ h) (i := 4) (oi := { dst := some 10, op := _, type := _, pos := _, after := _, guard := _ }) (v := ?_) rfl (by kernel_rfl) (by kernel_rfl) (by kernel_rfl) (fun _ _ _ h => h) (Or.inl (Or.inl ⟨by rfl, ?_⟩)) hS ?_
    rotate_left
    focus ((intro w hSw; (try dsimp only at hSw); have d0 := HSC.out w hSw; have d1 := HSC1.out w hSw; go_simp); (try with_reducible rfl))
    intro wq hwq
    subst hwq
    (try simp only [Act.put, List.setIfInBounds_toArray, List.set_cons_zero, List.set_cons_succ])
    refine wpAnyK_all (rs := [1, 7]) (by kernel_rfl) (by simp) (fun i hi => ?_)
    simp only [List.mem_cons, List.not_mem_nil, or_false] at hi
    rcases hi with rfl | rfl
    · refine stepK (o := { dst := some 7, op := _, type := _, pos := _, after := _, guard := _ }) rfl (fun K hK => ?_)
      go_simp
      refine (num_any 9 g A n c bs y0 (by omega) HCC.out HP.out).mono ?_
      rintro e y1 ⟨r, hr, rfl, hp, hf⟩
      have HP := Lib.hid hp
      have HR := Lib.hid hr
      replace hS : (fun W : World => Far g w1 W) y1 := Far.trans hS hf
      refine hK _ _ hS fun wq hwq => ?_
      subst hwq
      clear hK hp hf
      (try simp only [Act.put, List.setIfInBounds_toArray, List.set_cons_zero, List.set_cons_succ])
      have hrw : IntKind.i64.wrap (1 + (r : Int)) = 1 + (r : Int) := IntWalk.i64_in _ ⟨by omega, by omega⟩
      refine wpAnyK_take (fun _ => rfl) (fun _ _ _ h k => h.trans k) (fun _ _ h k => k ▸ h) (i := 2) (oi := { dst := some 8, op := _, type := _, pos := _, after := _, guard := _ }) (v := ?_) rfl (by kernel_rfl) (by kernel_rfl) (by kernel_rfl) (fun _ _ _ h => h) (Or.inl (Or.inl ⟨by rfl, ?_⟩)) hS ?_
      rotate_left
      focus ((intro w hSw; (try dsimp only at hSw); skip; go_simp); (try with_reducible rfl))
      intro wq hwq
      subst hwq
      (try simp only [Act.put, List.setIfInBounds_toArray, List.set_cons_zero, List.set_cons_succ])
      refine wpAnyK_all (rs := [5, 7]) (by kernel_rfl) (by simp) (fun i hi => ?_)
      simp only [List.mem_cons, List.not_mem_nil, or_false] at hi
      rcases hi with rfl | rfl
      · refine stepK (o := { dst := some 11, op := _, type := _, pos := _, after := _, guard := _ }) rfl (fun K hK => ?_)
        go_simp
        refine (HCOL.out y1 hS HP.out).mono ?_
        rintro e y2 ⟨id, rfl, hp, hf⟩
        have HP := Lib.hid hp
        replace hS : (fun W : World => Far g w1 W) y2 := Far.trans hS hf
        refine hK _ _ hS fun wq hwq => ?_
        subst hwq
        clear hK hp hf
        (try simp only [Act.put, List.setIfInBounds_toArray, List.set_cons_zero, List.set_cons_succ])
        refine wpAnyK_take (fun _ => rfl) (fun _ _ _ h k => h.trans k) (fun _ _ h k => k ▸ h) (i := 6) (oi := { dst := some 12, op := _, type := _, pos := _, after := _, guard := _ }) (v := ?_) rfl (by kernel_rfl) (by kernel_rfl) (by kernel_rfl) (fun _ _ _ h => h) (Or.inl (Or.inl ⟨by rfl, ?_⟩)) hS ?_
        rotate_left
        focus ((intro w hSw; (try dsimp only at hSw); skip; go_simp); (try with_reducible rfl))
        intro wq hwq
        subst hwq
        (try simp only [Act.put, List.setIfInBounds_toArray, List.set_cons_zero, List.set_cons_succ])
        refine wpAnyK_all (rs := [7]) (by kernel_rfl) (by simp) (fun i hi => ?_)
        simp only [List.mem_cons, List.not_mem_nil, or_false] at hi
        subst hi
        refine stepK (o := { dst := some 5, op := _, type := _, pos := _, after := _, guard := _ }) rfl (fun K hK => ?_)
        go_simp
        obtain ⟨ga, hgg⟩ : ∃ x, y2.heap.size = x := ⟨_, rfl⟩
        obtain ⟨y3, hyy⟩ : ∃ x, y2.alloc (.cells #[.int .i64 0, .int .i64 0, .string ⟨#[]⟩, .int .i64 0, .int .i64 0, .int .i64 0, .string ⟨#[]⟩, .int .u8 0, .int .i64 0] 31) = x := ⟨_, rfl⟩
        have lc : Later y2 y3 := hyy ▸ Later.new _ _
        have HA := Lib.hid (show Blk y3 ga #[.int .i64 0, .int .i64 0, .string ⟨#[]⟩, .int .i64 0, .int .i64 0, .int .i64 0, .string ⟨#[]⟩, .int .u8 0, .int .i64 0] 31 from hyy ▸ Blk.new _ _ _ _ hgg.symm)
        have HGA := Lib.hid (show w1.heap.size ≤ ga from hgg ▸ Far.size hS)
        have HP := Lib.hid (HP.out.later lc)
        replace hS : (fun W : World => Far g w1 W) y3 := Far.later hS lc
        try rw [hgg]
        rw [hyy]
        refine hK _ _ hS fun wq hwq => ?_
        subst hwq
        clear hK lc hyy hgg
        (try simp only [Act.put, List.setIfInBounds_toArray, List.set_cons_zero, List.set_cons_succ])
        refine wpAnyK_all (rs := [8]) (by kernel_rfl) (by simp) (fun i hi => ?_)
        simp only [List.mem_cons, List.not_mem_nil, or_false] at hi
        subst hi
        refine stepK (o := { dst := none, op := _, type := _, pos := _, after := _, guard := _ }) rfl (fun K hK => ?_)
        rw [if_pos (by rfl)]
        refine wp_store_mid 31 _ _ rfl ga 0 #[.int .i64 (1 + (r : Int)), .int .i64 id, .string ⟨#[]⟩, .int .i64 0, .int .i64 0, .int .i64 0, .string ⟨#[]⟩, .int .u8 0, .int .i64 0] rfl rfl (fun j hj => by rw [Nat.zero_add]; have hj2 : j < 9 := hj; exact ⟨by rw [cell_of_row y3 ga j _ _ _ HA.out, Array.getElem?_eq_getElem (by exact hj2)]; rfl, HA.out.frozen j⟩) (by kernel_rfl) (by simp [Value.oneCell']) ?_
        have hA2 := Blk.fill [.int .i64 0, .int .i64 0, .string ⟨#[]⟩, .int .i64 0, .int .i64 0, .int .i64 0, .string ⟨#[]⟩, .int .u8 0, .int .i64 0] [.int .i64 (1 + (r : Int)), .int .i64 id, .string ⟨#[]⟩, .int .i64 0, .int .i64 0, .int .i64 0, .string ⟨#[]⟩, .int .u8 0, .int .i64 0] HA.out rfl
        have hS2 : (fun W : World => Far g w1 W) (y3.setCells ga 0 [.int .i64 (1 + (r : Int)), .int .i64 id, .string ⟨#[]⟩, .int .i64 0, .int .i64 0, .int .i64 0, .string ⟨#[]⟩, .int .u8 0, .int .i64 0]) := far_fill hS HGA.out 0 _
        have hP2 := pks_fill HP.out (show g < ga from by have := HGA.out; omega) 0 [.int .i64 (1 + (r : Int)), .int .i64 id, .string ⟨#[]⟩, .int .i64 0, .int .i64 0, .int .i64 0, .string ⟨#[]⟩, .int .u8 0, .int .i64 0]
        have hR2 := Blk.aside (hS.blk HB1.out (by have := HF1.out.1; omega)) (show w.heap.size + 1 ≠ ga from by have := HGA.out; have := HS1.out; omega) 0 [.int .i64 (1 + (r : Int)), .int .i64 id, .string ⟨#[]⟩, .int .i64 0, .int .i64 0, .int .i64 0, .string ⟨#[]⟩, .int .u8 0, .int .i64 0]
        refine hK _ _ hS2 fun wq hwq => ?_
        obtain ⟨z1, hz1⟩ : ∃ x, y3.setCells ga 0 [.int .i64 (1 + (r : Int)), .int .i64 id, .string ⟨#[]⟩, .int .i64 0, .int .i64 0, .int .i64 0, .string ⟨#[]⟩, .int .u8 0, .int .i64 0] = x := ⟨_, rfl⟩
        rw [hz1] at hA2 hS2 hP2 hR2
        have hz2 : z1 = wq := hz1.symm.trans hwq
        subst hz2
        clear hK hwq hz1
        (try simp only [Act.put])
        refine wpAnyK_done (by kernel_rfl) ?_ _
        go_wp2_with fail
        go_meet
        exact ⟨ga, r, id, HR.out, rfl, hP2, HF1.out.trans hS2, hA2, hR2, (by have := HGA.out; have := HS1.out; omega), (by show (⟨#[]⟩ : ByteArray).size ≤ 9223372036854775807; decide), (by simp)⟩
      · refine stepK (o := { dst := some 5, op := _, type := _, pos := _, after := _, guard := _ }) rfl (fun K hK => ?_)
        go_simp
        obtain ⟨ga, hgg⟩ : ∃ x, y1.heap.size = x := ⟨_, rfl⟩
        obtain ⟨y2, hyy⟩ : ∃ x, y1.alloc (.cells #[.int .i64 0, .int .i64 0, .string ⟨#[]⟩, .int .i64 0, .int .i64 0, .int .i64 0, .string ⟨#[]⟩, .int .u8 0, .int .i64 0] 31) = x := ⟨_, rfl⟩
        have lc : Later y1 y2 := hyy ▸ Later.new _ _
        have HA := Lib.hid (show Blk y2 ga #[.int .i64 0, .int .i64 0, .string ⟨#[]⟩, .int .i64 0, .int .i64 0, .int .i64 0, .string ⟨#[]⟩, .int .u8 0, .int .i64 0] 31 from hyy ▸ Blk.new _ _ _ _ hgg.symm)
        have HGA := Lib.hid (show w1.heap.size ≤ ga from hgg ▸ Far.size hS)
        have HP := Lib.hid (HP.out.later lc)
        replace hS : (fun W : World => Far g w1 W) y2 := Far.later hS lc
        try rw [hgg]
        rw [hyy]
        refine hK _ _ hS fun wq hwq => ?_
        subst hwq
        clear hK lc hyy hgg
        (try simp only [Act.put, List.setIfInBounds_toArray, List.set_cons_zero, List.set_cons_succ])
        refine wpAnyK_all (rs := [5]) (by kernel_rfl) (by simp) (fun i hi => ?_)
        simp only [List.mem_cons, List.not_mem_nil, or_false] at hi
        subst hi
        refine stepK (o := { dst := some 11, op := _, type := _, pos := _, after := _, guard := _ }) rfl (fun K hK => ?_)
        go_simp
        refine (HCOL.out y2 hS HP.out).mono ?_
        rintro e y3 ⟨id, rfl, hp, hf⟩
        have HP := Lib.hid hp
        have HA := Lib.hid (hf.blk HA.out (by have := HGA.out; omega))
        replace hS : (fun W : World => Far g w1 W) y3 := Far.trans hS hf
        refine hK _ _ hS fun wq hwq => ?_
        subst hwq
        clear hK hp hf
        (try simp only [Act.put, List.setIfInBounds_toArray, List.set_cons_zero, List.set_cons_succ])
        refine wpAnyK_take (fun _ => rfl) (fun _ _ _ h k => h.trans k) (fun _ _ h k => k ▸ h) (i := 6) (oi := { dst := some 12, op := _, type := _, pos := _, after := _, guard := _ }) (v := ?_) rfl (by kernel_rfl) (by kernel_rfl) (by kernel_rfl) (fun _ _ _ h => h) (Or.inl (Or.inl ⟨by rfl, ?_⟩)) hS ?_
        rotate_left
        focus ((intro w hSw; (try dsimp only at hSw); skip; go_simp); (try with_reducible rfl))
        intro wq hwq
        subst hwq
        (try simp only [Act.put, List.setIfInBounds_toArray, List.set_cons_zero, List.set_cons_succ])
        refine wpAnyK_all (rs := [8]) (by kernel_rfl) (by simp) (fun i hi => ?_)
        simp only [List.mem_cons, List.not_mem_nil, or_false] at hi
        subst hi
        refine stepK (o := { dst := none, op := _, type := _, pos := _, after := _, guard := _ }) rfl (fun K hK => ?_)
        rw [if_pos (by rfl)]
        refine wp_store_mid 31 _ _ rfl ga 0 #[.int .i64 (1 + (r : Int)), .int .i64 id, .string ⟨#[]⟩, .int .i64 0, .int .i64 0, .int .i64 0, .string ⟨#[]⟩, .int .u8 0, .int .i64 0] rfl rfl (fun j hj => by rw [Nat.zero_add]; have hj2 : j < 9 := hj; exact ⟨by rw [cell_of_row y3 ga j _ _ _ HA.out, Array.getElem?_eq_getElem (by exact hj2)]; rfl, HA.out.frozen j⟩) (by kernel_rfl) (by simp [Value.oneCell']) ?_
        have hA2 := Blk.fill [.int .i64 0, .int .i64 0, .string ⟨#[]⟩, .int .i64 0, .int .i64 0, .int .i64 0, .string ⟨#[]⟩, .int .u8 0, .int .i64 0] [.int .i64 (1 + (r : Int)), .int .i64 id, .string ⟨#[]⟩, .int .i64 0, .int .i64 0, .int .i64 0, .string ⟨#[]⟩, .int .u8 0, .int .i64 0] HA.out rfl
        have hS2 : (fun W : World => Far g w1 W) (y3.setCells ga 0 [.int .i64 (1 + (r : Int)), .int .i64 id, .string ⟨#[]⟩, .int .i64 0, .int .i64 0, .int .i64 0, .string ⟨#[]⟩, .int .u8 0, .int .i64 0]) := far_fill hS HGA.out 0 _
        have hP2 := pks_fill HP.out (show g < ga from by have := HGA.out; omega) 0 [.int .i64 (1 + (r : Int)), .int .i64 id, .string ⟨#[]⟩, .int .i64 0, .int .i64 0, .int .i64 0, .string ⟨#[]⟩, .int .u8 0, .int .i64 0]
        have hR2 := Blk.aside (hS.blk HB1.out (by have := HF1.out.1; omega)) (show w.heap.size + 1 ≠ ga from by have := HGA.out; have := HS1.out; omega) 0 [.int .i64 (1 + (r : Int)), .int .i64 id, .string ⟨#[]⟩, .int .i64 0, .int .i64 0, .int .i64 0, .string ⟨#[]⟩, .int .u8 0, .int .i64 0]
        refine hK _ _ hS2 fun wq hwq => ?_
        obtain ⟨z1, hz1⟩ : ∃ x, y3.setCells ga 0 [.int .i64 (1 + (r : Int)), .int .i64 id, .string ⟨#[]⟩, .int .i64 0, .int .i64 0, .int .i64 0, .string ⟨#[]⟩, .int .u8 0, .int .i64 0] = x := ⟨_, rfl⟩
        rw [hz1] at hA2 hS2 hP2 hR2
        have hz2 : z1 = wq := hz1.symm.trans hwq
        subst hz2
        clear hK hwq hz1
        (try simp only [Act.put])
        refine wpAnyK_done (by kernel_rfl) ?_ _
        go_wp2_with fail
        go_meet
        exact ⟨ga, r, id, HR.out, rfl, hP2, HF1.out.trans hS2, hA2, hR2, (by have := HGA.out; have := HS1.out; omega), (by show (⟨#[]⟩ : ByteArray).size ≤ 9223372036854775807; decide), (by simp)⟩
    · refine stepK (o := { dst := some 5, op := _, type := _, pos := _, after := _, guard := _ }) rfl (fun K hK => ?_)
      go_simp
      obtain ⟨ga, hgg⟩ : ∃ x, y0.heap.size = x := ⟨_, rfl⟩
      obtain ⟨y1, hyy⟩ : ∃ x, y0.alloc (.cells #[.int .i64 0, .int .i64 0, .string ⟨#[]⟩, .int .i64 0, .int .i64 0, .int .i64 0, .string ⟨#[]⟩, .int .u8 0, .int .i64 0] 31) = x := ⟨_, rfl⟩
      have lc : Later y0 y1 := hyy ▸ Later.new _ _
      have HA := Lib.hid (show Blk y1 ga #[.int .i64 0, .int .i64 0, .string ⟨#[]⟩, .int .i64 0, .int .i64 0, .int .i64 0, .string ⟨#[]⟩, .int .u8 0, .int .i64 0] 31 from hyy ▸ Blk.new _ _ _ _ hgg.symm)
      have HGA := Lib.hid (show w1.heap.size ≤ ga from hgg ▸ Far.size hS)
      have HP := Lib.hid (HP.out.later lc)
      replace hS : (fun W : World => Far g w1 W) y1 := Far.later hS lc
      try rw [hgg]
      rw [hyy]
      refine hK _ _ hS fun wq hwq => ?_
      subst hwq
      clear hK lc hyy hgg
      (try simp only [Act.put, List.setIfInBounds_toArray, List.set_cons_zero, List.set_cons_succ])
      refine wpAnyK_all (rs := [1]) (by kernel_rfl) (by simp) (fun i hi => ?_)
      simp only [List.mem_cons, List.not_mem_nil, or_false] at hi
      subst hi
      refine stepK (o := { dst := some 7, op := _, type := _, pos := _, after := _, guard := _ }) rfl (fun K hK => ?_)
      go_simp
      refine (num_any 9 g A n c bs y1 (by omega) HCC.out HP.out).mono ?_
      rintro e y2 ⟨r, hr, rfl, hp, hf⟩
      have HP := Lib.hid hp
      have HA := Lib.hid (hf.blk HA.out (by have := HGA.out; omega))
      have HR := Lib.hid hr
      replace hS : (fun W : World => Far g w1 W) y2 := Far.trans hS hf
      refine hK _ _ hS fun wq hwq => ?_
      subst hwq
      clear hK hp hf
      (try simp only [Act.put, List.setIfInBounds_toArray, List.set_cons_zero, List.set_cons_succ])
      have hrw : IntKind.i64.wrap (1 + (r : Int)) = 1 + (r : Int) := IntWalk.i64_in _ ⟨by omega, by omega⟩
      refine wpAnyK_take (fun _ => rfl) (fun _ _ _ h k => h.trans k) (fun _ _ h k => k ▸ h) (i := 2) (oi := { dst := some 8, op := _, type := _, pos := _, after := _, guard := _ }) (v := ?_) rfl (by kernel_rfl) (by kernel_rfl) (by kernel_rfl) (fun _ _ _ h => h) (Or.inl (Or.inl ⟨by rfl, ?_⟩)) hS ?_
      rotate_left
      focus ((intro w hSw; (try dsimp only at hSw); skip; go_simp); (try with_reducible rfl))
      intro wq hwq
      subst hwq
      (try simp only [Act.put, List.setIfInBounds_toArray, List.set_cons_zero, List.set_cons_succ])
      refine wpAnyK_all (rs := [5]) (by kernel_rfl) (by simp) (fun i hi => ?_)
      simp only [List.mem_cons, List.not_mem_nil, or_false] at hi
      subst hi
      refine stepK (o := { dst := some 11, op := _, type := _, pos := _, after := _, guard := _ }) rfl (fun K hK => ?_)
      go_simp
      refine (HCOL.out y2 hS HP.out).mono ?_
      rintro e y3 ⟨id, rfl, hp, hf⟩
      have HP := Lib.hid hp
      have HA := Lib.hid (hf.blk HA.out (by have := HGA.out; omega))
      replace hS : (fun W : World => Far g w1 W) y3 := Far.trans hS hf
      refine hK _ _ hS fun wq hwq => ?_
      subst hwq
      clear hK hp hf
      (try simp only [Act.put, List.setIfInBounds_toArray, List.set_cons_zero, List.set_cons_succ])
      refine wpAnyK_take (fun _ => rfl) (fun _ _ _ h k => h.trans k) (fun _ _ h k => k ▸ h) (i := 6) (oi := { dst := some 12, op := _, type := _, pos := _, after := _, guard := _ }) (v := ?_) rfl (by kernel_rfl) (by kernel_rfl) (by kernel_rfl) (fun _ _ _ h => h) (Or.inl (Or.inl ⟨by rfl, ?_⟩)) hS ?_
      rotate_left
      focus ((intro w hSw; (try dsimp only at hSw); skip; go_simp); (try with_reducible rfl))
      intro wq hwq
      subst hwq
      (try simp only [Act.put, List.setIfInBounds_toArray, List.set_cons_zero, List.set_cons_succ])
      refine wpAnyK_all (rs := [8]) (by kernel_rfl) (by simp) (fun i hi => ?_)
      simp only [List.mem_cons, List.not_mem_nil, or_false] at hi
      subst hi
      refine stepK (o := { dst := none, op := _, type := _, pos := _, after := _, guard := _ }) rfl (fun K hK => ?_)
      rw [if_pos (by rfl)]
      refine wp_store_mid 31 _ _ rfl ga 0 #[.int .i64 (1 + (r : Int)), .int .i64 id, .string ⟨#[]⟩, .int .i64 0, .int .i64 0, .int .i64 0, .string ⟨#[]⟩, .int .u8 0, .int .i64 0] rfl rfl (fun j hj => by rw [Nat.zero_add]; have hj2 : j < 9 := hj; exact ⟨by rw [cell_of_row y3 ga j _ _ _ HA.out, Array.getElem?_eq_getElem (by exact hj2)]; rfl, HA.out.frozen j⟩) (by kernel_rfl) (by simp [Value.oneCell']) ?_
      have hA2 := Blk.fill [.int .i64 0, .int .i64 0, .string ⟨#[]⟩, .int .i64 0, .int .i64 0, .int .i64 0, .string ⟨#[]⟩, .int .u8 0, .int .i64 0] [.int .i64 (1 + (r : Int)), .int .i64 id, .string ⟨#[]⟩, .int .i64 0, .int .i64 0, .int .i64 0, .string ⟨#[]⟩, .int .u8 0, .int .i64 0] HA.out rfl
      have hS2 : (fun W : World => Far g w1 W) (y3.setCells ga 0 [.int .i64 (1 + (r : Int)), .int .i64 id, .string ⟨#[]⟩, .int .i64 0, .int .i64 0, .int .i64 0, .string ⟨#[]⟩, .int .u8 0, .int .i64 0]) := far_fill hS HGA.out 0 _
      have hP2 := pks_fill HP.out (show g < ga from by have := HGA.out; omega) 0 [.int .i64 (1 + (r : Int)), .int .i64 id, .string ⟨#[]⟩, .int .i64 0, .int .i64 0, .int .i64 0, .string ⟨#[]⟩, .int .u8 0, .int .i64 0]
      have hR2 := Blk.aside (hS.blk HB1.out (by have := HF1.out.1; omega)) (show w.heap.size + 1 ≠ ga from by have := HGA.out; have := HS1.out; omega) 0 [.int .i64 (1 + (r : Int)), .int .i64 id, .string ⟨#[]⟩, .int .i64 0, .int .i64 0, .int .i64 0, .string ⟨#[]⟩, .int .u8 0, .int .i64 0]
      refine hK _ _ hS2 fun wq hwq => ?_
      obtain ⟨z1, hz1⟩ : ∃ x, y3.setCells ga 0 [.int .i64 (1 + (r : Int)), .int .i64 id, .string ⟨#[]⟩, .int .i64 0, .int .i64 0, .int .i64 0, .string ⟨#[]⟩, .int .u8 0, .int .i64 0] = x := ⟨_, rfl⟩
      rw [hz1] at hA2 hS2 hP2 hR2
      have hz2 : z1 = wq := hz1.symm.trans hwq
      subst hz2
      clear hK hwq hz1
      (try simp only [Act.put])
      refine wpAnyK_done (by kernel_rfl) ?_ _
      go_wp2_with fail
      go_meet
      exact ⟨ga, r, id, HR.out, rfl, hP2, HF1.out.trans hS2, hA2, hR2, (by have := HGA.out; have := HS1.out; omega), (by show (⟨#[]⟩ : ByteArray).size ≤ 9223372036854775807; decide), (by simp)⟩
  case rest =>
  obtain ⟨g5, r, id, hr, rfl, hch⟩ := hcut
  have HCH := Lib.hid hch
  have HH5 := Lib.hid (show g < g5 from by have := hch.g5; have := hch.far.1; omega)
  clear hch HCOL HSC HSC1 HP1 HB1
  have k0 : wc.cell? ⟨g5, 0, none⟩ = some (.int .i64 (1 + (r : Int))) := HCH.out.blk.cell 0 _ rfl
  go_upto_block 0 with fail
  clear k0
  go_cut [5] from 15 to 80 (fun pv wx => pv = .pointer (some ⟨g5, 0, none⟩) ∧ ∃ ch, ChW w g A n c bs g5 ch wx)
  case first =>
    have hr9 : r = 0 ∨ r = 1 ∨ r = 2 ∨ r = 3 ∨ r = 4 ∨ r = 5 ∨ r = 6 ∨ r = 7 ∨ r = 8 := by omega
    rcases hr9 with rfl | rfl | rfl | rfl | rfl | rfl | rfl | rfl | rfl
    · have HCH := Lib.hid (show ChW w g A n c bs g5 ⟨1, id, ⟨#[]⟩, 0, (0, 0, ⟨#[]⟩), 0, 0⟩ wc from HCH.out)
      have k0 := HCH.out.blk.cell 0 _ rfl
      have f0 := HCH.out.blk.frozen 0
      have k1 := HCH.out.blk.cell 1 _ rfl
      have f1 := HCH.out.blk.frozen 1
      have k2 := HCH.out.blk.cell 2 _ rfl
      have f2 := HCH.out.blk.frozen 2
      have k3 := HCH.out.blk.cell 3 _ rfl
      have f3 := HCH.out.blk.frozen 3
      have k4 := HCH.out.blk.cell 4 _ rfl
      have f4 := HCH.out.blk.frozen 4
      have k5 := HCH.out.blk.cell 5 _ rfl
      have f5 := HCH.out.blk.frozen 5
      have k6 := HCH.out.blk.cell 6 _ rfl
      have f6 := HCH.out.blk.frozen 6
      have k7 := HCH.out.blk.cell 7 _ rfl
      have f7 := HCH.out.blk.frozen 7
      have k8 := HCH.out.blk.cell 8 _ rfl
      have f8 := HCH.out.blk.frozen 8
      clear hr
      go_wp2_with fail
      clear k0 f0 k1 f1 k2 f2 k3 f3 k4 f4 k5 f5 k6 f6 k7 f7 k8 f8
      refine (num_any 4 g A n c bs wc (by omega) HCC.out HCH.out.pk).mono ?_
      rintro e wd ⟨r2, hr2, rfl, hp, hf⟩
      have HCH := Lib.hid (HCH.out.to hp hf)
      clear hp hf
      have k0 := HCH.out.blk.cell 0 _ rfl
      have f0 := HCH.out.blk.frozen 0
      have k1 := HCH.out.blk.cell 1 _ rfl
      have f1 := HCH.out.blk.frozen 1
      have k2 := HCH.out.blk.cell 2 _ rfl
      have f2 := HCH.out.blk.frozen 2
      have k3 := HCH.out.blk.cell 3 _ rfl
      have f3 := HCH.out.blk.frozen 3
      have k4 := HCH.out.blk.cell 4 _ rfl
      have f4 := HCH.out.blk.frozen 4
      have k5 := HCH.out.blk.cell 5 _ rfl
      have f5 := HCH.out.blk.frozen 5
      have k6 := HCH.out.blk.cell 6 _ rfl
      have f6 := HCH.out.blk.frozen 6
      have k7 := HCH.out.blk.cell 7 _ rfl
      have f7 := HCH.out.blk.frozen 7
      have k8 := HCH.out.blk.cell 8 _ rfl
      have f8 := HCH.out.blk.frozen 8
      have hw2 : IntKind.i64.wrap (1 + (r2 : Int)) = 1 + (r2 : Int) := IntWalk.i64_in _ ⟨by omega, by omega⟩
      go_upto_region 5 with fail
      clear k0 f0 k1 f1 k2 f2 k3 f3 k4 f4 k5 f5 k6 f6 k7 f7 k8 f8
      obtain ⟨wm, hwm⟩ : ∃ x, (wd.setCell ⟨g5, 1, none⟩ (.int .i64 0)).setCell ⟨g5, 3, none⟩ (.int .i64 (1 + (r2 : Int))) = x := ⟨_, rfl⟩
      have HCH := Lib.hid (show ChW w g A n c bs g5 ⟨1, 0, ⟨#[]⟩, 1 + (r2 : Int), (0, 0, ⟨#[]⟩), 0, 0⟩ wm from hwm ▸ (HCH.out.set_ 1 _ ⟨1, 0, ⟨#[]⟩, 0, (0, 0, ⟨#[]⟩), 0, 0⟩ rfl sz0).set_ 3 _ ⟨1, 0, ⟨#[]⟩, 1 + (r2 : Int), (0, 0, ⟨#[]⟩), 0, 0⟩ rfl sz0)
      rw [hwm]
      clear hwm
      refine wp_region_K (S := (fun W : World => ∃ nm v, ChW w g A n c bs g5 ⟨1, 0, nm, 1 + (r2 : Int), v, 0, 0⟩ W)) (R := fun a b => a = b) (fun _ => rfl) (by kernel_rfl) ?_
      obtain ⟨y0, hy0⟩ : ∃ x, wm.drew = x := ⟨_, rfl⟩
      have hC : ChW w g A n c bs g5 ⟨1, 0, ⟨#[]⟩, 1 + (r2 : Int), (0, 0, ⟨#[]⟩), 0, 0⟩ y0 := hy0 ▸ HCH.out.later (Later.refl wm).drew
      have hS : (fun W : World => ∃ nm v, ChW w g A n c bs g5 ⟨1, 0, nm, 1 + (r2 : Int), v, 0, 0⟩ W) y0 := ⟨_, _, hC⟩
      rw [hy0]
      clear hy0
      refine wpAnyK_take (fun _ => rfl) (fun _ _ _ h k => h.trans k) (fun _ _ h k => k ▸ h) (i := 0) (oi := { dst := some 22, op := _, type := _, pos := _, after := _, guard := _ }) (v := ?_) rfl (by kernel_rfl) (by kernel_rfl) (by kernel_rfl) (fun _ _ _ h => h) (Or.inl (Or.inl ⟨by rfl, ?_⟩)) hS ?_
      rotate_left
      focus ((intro w hSw; (try dsimp only at hSw); obtain ⟨nm0, v0, hw0⟩ := hSw; have d0 : w.cell? ⟨g5, 3, none⟩ = some (.int .i64 (1 + (r2 : Int))) := hw0.blk.cell 3 _ rfl; go_simp); (try with_reducible rfl))
      intro wq hwq
      subst hwq
      (try simp only [Act.put, List.setIfInBounds_toArray, List.set_cons_zero, List.set_cons_succ])
      refine wpAnyK_take (fun _ => rfl) (fun _ _ _ h k => h.trans k) (fun _ _ h k => k ▸ h) (i := 7) (oi := { dst := some 29, op := _, type := _, pos := _, after := _, guard := _ }) (v := ?_) rfl (by kernel_rfl) (by kernel_rfl) (by kernel_rfl) (fun _ _ _ h => h) (Or.inl (Or.inl ⟨by rfl, ?_⟩)) hS ?_
      rotate_left
      focus ((intro w hSw; (try dsimp only at hSw); obtain ⟨nm0, v0, hw0⟩ := hSw; have d0 : w.cell? ⟨g5, 3, none⟩ = some (.int .i64 (1 + (r2 : Int))) := hw0.blk.cell 3 _ rfl; go_simp); (try with_reducible rfl))
      intro wq hwq
      subst hwq
      (try simp only [Act.put, List.setIfInBounds_toArray, List.set_cons_zero, List.set_cons_succ])
      refine wpAnyK_take (fun _ => rfl) (fun _ _ _ h k => h.trans k) (fun _ _ h k => k ▸ h) (i := 8) (oi := { dst := some 30, op := _, type := _, pos := _, after := _, guard := _ }) (v := ?_) rfl (by kernel_rfl) (by kernel_rfl) (by kernel_rfl) (fun _ _ _ h => h) (Or.inl (Or.inl ⟨by rfl, ?_⟩)) hS ?_
      rotate_left
      focus ((intro w hSw; (try dsimp only at hSw); obtain ⟨nm0, v0, hw0⟩ := hSw; have d0 : w.cell? ⟨g5, 3, none⟩ = some (.int .i64 (1 + (r2 : Int))) := hw0.blk.cell 3 _ rfl; go_simp); (try with_reducible rfl))
      intro wq hwq
      subst hwq
      (try simp only [Act.put, List.setIfInBounds_toArray, List.set_cons_zero, List.set_cons_succ])
      refine wpAnyK_take (fun _ => rfl) (fun _ _ _ h k => h.trans k) (fun _ _ h k => k ▸ h) (i := 9) (oi := { dst := some 31, op := _, type := _, pos := _, after := _, guard := _ }) (v := ?_) rfl (by kernel_rfl) (by kernel_rfl) (by kernel_rfl) (fun _ _ _ h => h) (Or.inl (Or.inl ⟨by rfl, ?_⟩)) hS ?_
      rotate_left
      focus ((intro w hSw; (try dsimp only at hSw); obtain ⟨nm0, v0, hw0⟩ := hSw; have d0 : w.cell? ⟨g5, 3, none⟩ = some (.int .i64 (1 + (r2 : Int))) := hw0.blk.cell 3 _ rfl; go_simp); (try with_reducible rfl))
      intro wq hwq
      subst hwq
      (try simp only [Act.put, List.setIfInBounds_toArray, List.set_cons_zero, List.set_cons_succ])
      refine wpAnyK_all (rs := [1]) (by kernel_rfl) (by simp) (fun i hi => ?_)
      simp only [List.mem_cons, List.not_mem_nil, or_false] at hi
      subst hi
      refine stepK (o := { dst := some 23, op := _, type := _, pos := _, after := _, guard := _ }) rfl (fun K hK => ?_)
      go_simp
      refine (num_any 9 g A n c bs y0 (by omega) HCC.out hC.pk).mono ?_
      rintro e y1 ⟨r3, hr3, rfl, hp, hf⟩
      replace hC := hC.to hp hf
      replace hS : (fun W : World => ∃ nm v, ChW w g A n c bs g5 ⟨1, 0, nm, 1 + (r2 : Int), v, 0, 0⟩ W) y1 := ⟨_, _, hC⟩
      refine hK _ _ hS fun wq hwq => ?_
      subst hwq
      clear hK hp hf
      (try simp only [Act.put, List.setIfInBounds_toArray, List.set_cons_zero, List.set_cons_succ])
      obtain ⟨p1, hp1⟩ : ∃ x, 97 + r3 = x := ⟨_, rfl⟩
      have hy0 : IntKind.i64.wrap (97 + (r3 : Int)) = (p1 : Int) := by rw [IntWalk.i64_in _ ⟨by omega, by omega⟩]; omega
      have hy1 : (97 + (r3 : Int)) = (p1 : Int) := by omega
      have hy3 : IntKind.i64.wrap (p1 : Int) = (p1 : Int) := IntWalk.i64_in _ ⟨by omega, by omega⟩
      have hy5 : IntKind.u8.wrap (p1 : Int) = (p1 : Int) := IntWalk.u8_in _ ⟨by omega, by omega⟩
      have hsz : (9223372036854775807 < 1 + (bstr [p1]).size) = False := by
        have e : (bstr [p1]).size = 1 := rfl
        rw [e]; simp
      refine wpAnyK_take (fun _ => rfl) (fun _ _ _ h k => h.trans k) (fun _ _ h k => k ▸ h) (i := 2) (oi := { dst := some 24, op := _, type := _, pos := _, after := _, guard := _ }) (v := ?_) rfl (by kernel_rfl) (by kernel_rfl) (by kernel_rfl) (fun _ _ _ h => h) (Or.inl (Or.inl ⟨by rfl, ?_⟩)) hS ?_
      rotate_left
      focus ((intro w hSw; (try dsimp only at hSw); skip; go_simp); (try with_reducible rfl))
      intro wq hwq
      subst hwq
      (try simp only [Act.put, List.setIfInBounds_toArray, List.set_cons_zero, List.set_cons_succ])
      refine wpAnyK_take (fun _ => rfl) (fun _ _ _ h k => h.trans k) (fun _ _ h k => k ▸ h) (i := 3) (oi := { dst := some 25, op := _, type := _, pos := _, after := _, guard := _ }) (v := ?_) rfl (by kernel_rfl) (by kernel_rfl) (by kernel_rfl) (fun _ _ _ h => h) (Or.inl (Or.inl ⟨by rfl, ?_⟩)) hS ?_
      rotate_left
      focus ((intro w hSw; (try dsimp only at hSw); skip; go_simp); (try with_reducible rfl))
      intro wq hwq
      subst hwq
      (try simp only [Act.put, List.setIfInBounds_toArray, List.set_cons_zero, List.set_cons_succ])
      refine wpAnyK_all (rs := [4, 10]) (by kernel_rfl) (by simp) (fun i hi => ?_)
      simp only [List.mem_cons, List.not_mem_nil, or_false] at hi
      rcases hi with rfl | rfl
      · refine stepK (o := { dst := some 26, op := _, type := _, pos := _, after := _, guard := _ }) rfl (fun K hK => ?_)
        go_simp
        obtain ⟨gl, hgl⟩ : ∃ x, y1.heap.size = x := ⟨_, rfl⟩
        obtain ⟨y2, hwl⟩ : ∃ x : World, y1.alloc (.cells #[.int .u8 (p1 : Int)] 5) = x := ⟨_, rfl⟩
        have hlit : Has y2 (some ⟨gl, 0, none⟩) (ints .u8 [p1]) := hwl ▸ hgl ▸ (Has.lit y1 5 .u8 [p1])
        have HGL := Lib.hid (show g < gl from hgl ▸ hC.pk.lt)
        have HLIT := Lib.hid (HasX.mk3 hlit HGL.out)
        have ll : Later y1 y2 := hwl ▸ Later.new _ _
        try rw [hgl]
        rw [hwl]
        replace hC := hC.later ll
        replace hS : (fun W : World => ∃ nm v, ChW w g A n c bs g5 ⟨1, 0, nm, 1 + (r2 : Int), v, 0, 0⟩ W) y2 := ⟨_, _, hC⟩
        refine hK _ _ hS fun wq hwq => ?_
        subst hwq
        clear hK hwl hgl ll hlit
        (try simp only [Act.put, List.setIfInBounds_toArray, List.set_cons_zero, List.set_cons_succ])
        refine wpAnyK_all (rs := [5, 10]) (by kernel_rfl) (by simp) (fun i hi => ?_)
        simp only [List.mem_cons, List.not_mem_nil, or_false] at hi
        rcases hi with rfl | rfl
        · refine stepK (o := { dst := some 27, op := _, type := _, pos := _, after := _, guard := _ }) rfl (fun K hK => ?_)
          have hconv := conv_str (some ⟨gl, 0, none⟩) 1 1 [p1] rfl y2 _ HLIT.out.has
          go_simp
          refine hK _ _ hS fun wq hwq => ?_
          subst hwq
          clear hK hconv
          (try simp only [Act.put, List.setIfInBounds_toArray, List.set_cons_zero, List.set_cons_succ])
          have HNM := Lib.hid (sz1 110 p1)
          refine wpAnyK_take (fun _ => rfl) (fun _ _ _ h k => h.trans k) (fun _ _ h k => k ▸ h) (i := 6) (oi := { dst := some 28, op := _, type := _, pos := _, after := _, guard := _ }) (v := ?_) rfl (by kernel_rfl) (by kernel_rfl) (by kernel_rfl) (fun _ _ _ h => h) (Or.inl (Or.inl ⟨by rfl, ?_⟩)) hS ?_
          rotate_left
          focus ((intro w hSw; (try dsimp only at hSw); skip; go_simp); (try with_reducible rfl))
          intro wq hwq
          subst hwq
          (try simp only [Act.put, List.setIfInBounds_toArray, List.set_cons_zero, List.set_cons_succ])
          refine wpAnyK_take (fun _ => rfl) (fun _ _ _ h k => h.trans k) (fun _ _ h k => k ▸ h) (i := 11) (oi := { dst := some 33, op := _, type := _, pos := _, after := _, guard := _ }) (v := ?_) rfl (by kernel_rfl) (by kernel_rfl) (by kernel_rfl) (fun _ _ _ h => h) (Or.inl (Or.inl ⟨by rfl, ?_⟩)) hS ?_
          rotate_left
          focus ((intro w hSw; (try dsimp only at hSw); skip; go_simp); (try with_reducible rfl))
          intro wq hwq
          subst hwq
          (try simp only [Act.put, List.setIfInBounds_toArray, List.set_cons_zero, List.set_cons_succ])
          refine wpAnyK_all (rs := [10]) (by kernel_rfl) (by simp) (fun i hi => ?_)
          simp only [List.mem_cons, List.not_mem_nil, or_false] at hi
          subst hi
          refine stepK (o := { dst := some 32, op := _, type := _, pos := _, after := _, guard := _ }) rfl (fun K hK => ?_)
          go_simp
          refine (valueP (1 + (r2 : Int)) g A n c bs y2 HCC.out hC.pk).mono ?_
          rintro e y3 ⟨vt, vi, vs, rfl, -, hp, hf, -⟩
          have HLIT := Lib.hid (HLIT.out.far hf)
          replace hC := hC.to hp hf
          replace hS : (fun W : World => ∃ nm v, ChW w g A n c bs g5 ⟨1, 0, nm, 1 + (r2 : Int), v, 0, 0⟩ W) y3 := ⟨_, _, hC⟩
          refine hK _ _ hS fun wq hwq => ?_
          subst hwq
          clear hK hp hf
          (try simp only [Act.put, List.setIfInBounds_toArray, List.set_cons_zero, List.set_cons_succ])
          refine wpAnyK_all (rs := [12]) (by kernel_rfl) (by simp) (fun i hi => ?_)
          simp only [List.mem_cons, List.not_mem_nil, or_false] at hi
          subst hi
          refine stepK (o := { dst := none, op := _, type := _, pos := _, after := _, guard := _ }) rfl (fun K hK => ?_)
          have e2 : y3.cell? ⟨g5, 2, none⟩ = some (.string ⟨#[]⟩) := hC.blk.cell 2 _ rfl
          have f2 := hC.blk.frozen 2
          go_simp
          have h1 : ChW w g A n c bs g5 ⟨1, 0, (⟨#[110]⟩ : ByteArray) ++ bstr [p1], 1 + (r2 : Int), (0, 0, ⟨#[]⟩), 0, 0⟩ (y3.setCell ⟨g5, 2, none⟩ (.string ((⟨#[110]⟩ : ByteArray) ++ bstr [p1]))) := hC.set_ 2 _ ⟨1, 0, (⟨#[110]⟩ : ByteArray) ++ bstr [p1], 1 + (r2 : Int), (0, 0, ⟨#[]⟩), 0, 0⟩ rfl HNM.out
          refine hK _ _ ⟨_, _, h1⟩ fun wq hwq => ?_
          obtain ⟨u1, hu1⟩ : ∃ x, y3.setCell ⟨g5, 2, none⟩ (.string ((⟨#[110]⟩ : ByteArray) ++ bstr [p1])) = x := ⟨_, rfl⟩
          rw [hu1] at h1
          have hz2 : u1 = wq := hu1.symm.trans hwq
          subst hz2
          replace hS : (fun W : World => ∃ nm v, ChW w g A n c bs g5 ⟨1, 0, nm, 1 + (r2 : Int), v, 0, 0⟩ W) u1 := ⟨_, _, h1⟩
          clear hK hwq hu1 e2 f2 hC
          (try simp only [Act.put])
          refine wpAnyK_take (fun _ => rfl) (fun _ _ _ h k => h.trans k) (fun _ _ h k => k ▸ h) (i := 13) (oi := { dst := some 34, op := _, type := _, pos := _, after := _, guard := _ }) (v := ?_) rfl (by kernel_rfl) (by kernel_rfl) (by kernel_rfl) (fun _ _ _ h => h) (Or.inl (Or.inl ⟨by rfl, ?_⟩)) hS ?_
          rotate_left
          focus ((intro w hSw; (try dsimp only at hSw); skip; go_simp); (try with_reducible rfl))
          intro wq hwq
          subst hwq
          (try simp only [Act.put, List.setIfInBounds_toArray, List.set_cons_zero, List.set_cons_succ])
          refine wpAnyK_all (rs := [14]) (by kernel_rfl) (by simp) (fun i hi => ?_)
          simp only [List.mem_cons, List.not_mem_nil, or_false] at hi
          subst hi
          refine stepK (o := { dst := none, op := _, type := _, pos := _, after := _, guard := _ }) rfl (fun K hK => ?_)
          rw [if_pos (by rfl)]
          refine wp_store_mid 29 _ _ rfl g5 4 #[.int .i64 vt, .int .i64 vi, .string vs] rfl rfl (fun j hj => by have hj2 : j < 3 := hj; exact ⟨by rw [cell_of_row u1 g5 (4 + j) _ _ _ h1.blk, Array.getElem?_eq_getElem (show 4 + j < 9 by omega)]; rfl, h1.blk.frozen (4 + j)⟩) (by kernel_rfl) (by simp [Value.oneCell']) ?_
          have h2 : ChW w g A n c bs g5 ⟨1, 0, (⟨#[110]⟩ : ByteArray) ++ bstr [p1], 1 + (r2 : Int), (vt, vi, vs), 0, 0⟩ (u1.setCells g5 4 [.int .i64 vt, .int .i64 vi, .string vs]) := ((h1.set_ 4 (.int .i64 vt) ⟨1, 0, (⟨#[110]⟩ : ByteArray) ++ bstr [p1], 1 + (r2 : Int), (vt, 0, ⟨#[]⟩), 0, 0⟩ rfl HNM.out).set_ 5 (.int .i64 vi) ⟨1, 0, (⟨#[110]⟩ : ByteArray) ++ bstr [p1], 1 + (r2 : Int), (vt, vi, ⟨#[]⟩), 0, 0⟩ rfl HNM.out).set_ 6 (.string vs) ⟨1, 0, (⟨#[110]⟩ : ByteArray) ++ bstr [p1], 1 + (r2 : Int), (vt, vi, vs), 0, 0⟩ rfl HNM.out
          refine hK _ _ ⟨_, _, h2⟩ fun wq hwq => ?_
          obtain ⟨u2, hu2⟩ : ∃ x, u1.setCells g5 4 [.int .i64 vt, .int .i64 vi, .string vs] = x := ⟨_, rfl⟩
          rw [hu2] at h2
          have hz2 : u2 = wq := hu2.symm.trans hwq
          subst hz2
          clear hK hwq hu2 h1
          (try simp only [Act.put])
          refine wpAnyK_done (by kernel_rfl) ?_ _
          go_wp2_with fail
          go_meet
          exact ⟨rfl, _, h2⟩
        · refine stepK (o := { dst := some 32, op := _, type := _, pos := _, after := _, guard := _ }) rfl (fun K hK => ?_)
          go_simp
          refine (valueP (1 + (r2 : Int)) g A n c bs y2 HCC.out hC.pk).mono ?_
          rintro e y3 ⟨vt, vi, vs, rfl, -, hp, hf, -⟩
          have HLIT := Lib.hid (HLIT.out.far hf)
          replace hC := hC.to hp hf
          replace hS : (fun W : World => ∃ nm v, ChW w g A n c bs g5 ⟨1, 0, nm, 1 + (r2 : Int), v, 0, 0⟩ W) y3 := ⟨_, _, hC⟩
          refine hK _ _ hS fun wq hwq => ?_
          subst hwq
          clear hK hp hf
          (try simp only [Act.put, List.setIfInBounds_toArray, List.set_cons_zero, List.set_cons_succ])
          refine wpAnyK_all (rs := [5]) (by kernel_rfl) (by simp) (fun i hi => ?_)
          simp only [List.mem_cons, List.not_mem_nil, or_false] at hi
          subst hi
          refine stepK (o := { dst := some 27, op := _, type := _, pos := _, after := _, guard := _ }) rfl (fun K hK => ?_)
          have hconv := conv_str (some ⟨gl, 0, none⟩) 1 1 [p1] rfl y3 _ HLIT.out.has
          go_simp
          refine hK _ _ hS fun wq hwq => ?_
          subst hwq
          clear hK hconv
          (try simp only [Act.put, List.setIfInBounds_toArray, List.set_cons_zero, List.set_cons_succ])
          have HNM := Lib.hid (sz1 110 p1)
          refine wpAnyK_take (fun _ => rfl) (fun _ _ _ h k => h.trans k) (fun _ _ h k => k ▸ h) (i := 6) (oi := { dst := some 28, op := _, type := _, pos := _, after := _, guard := _ }) (v := ?_) rfl (by kernel_rfl) (by kernel_rfl) (by kernel_rfl) (fun _ _ _ h => h) (Or.inl (Or.inl ⟨by rfl, ?_⟩)) hS ?_
          rotate_left
          focus ((intro w hSw; (try dsimp only at hSw); skip; go_simp); (try with_reducible rfl))
          intro wq hwq
          subst hwq
          (try simp only [Act.put, List.setIfInBounds_toArray, List.set_cons_zero, List.set_cons_succ])
          refine wpAnyK_take (fun _ => rfl) (fun _ _ _ h k => h.trans k) (fun _ _ h k => k ▸ h) (i := 11) (oi := { dst := some 33, op := _, type := _, pos := _, after := _, guard := _ }) (v := ?_) rfl (by kernel_rfl) (by kernel_rfl) (by kernel_rfl) (fun _ _ _ h => h) (Or.inl (Or.inl ⟨by rfl, ?_⟩)) hS ?_
          rotate_left
          focus ((intro w hSw; (try dsimp only at hSw); skip; go_simp); (try with_reducible rfl))
          intro wq hwq
          subst hwq
          (try simp only [Act.put, List.setIfInBounds_toArray, List.set_cons_zero, List.set_cons_succ])
          refine wpAnyK_all (rs := [12]) (by kernel_rfl) (by simp) (fun i hi => ?_)
          simp only [List.mem_cons, List.not_mem_nil, or_false] at hi
          subst hi
          refine stepK (o := { dst := none, op := _, type := _, pos := _, after := _, guard := _ }) rfl (fun K hK => ?_)
          have e2 : y3.cell? ⟨g5, 2, none⟩ = some (.string ⟨#[]⟩) := hC.blk.cell 2 _ rfl
          have f2 := hC.blk.frozen 2
          go_simp
          have h1 : ChW w g A n c bs g5 ⟨1, 0, (⟨#[110]⟩ : ByteArray) ++ bstr [p1], 1 + (r2 : Int), (0, 0, ⟨#[]⟩), 0, 0⟩ (y3.setCell ⟨g5, 2, none⟩ (.string ((⟨#[110]⟩ : ByteArray) ++ bstr [p1]))) := hC.set_ 2 _ ⟨1, 0, (⟨#[110]⟩ : ByteArray) ++ bstr [p1], 1 + (r2 : Int), (0, 0, ⟨#[]⟩), 0, 0⟩ rfl HNM.out
          refine hK _ _ ⟨_, _, h1⟩ fun wq hwq => ?_
          obtain ⟨u1, hu1⟩ : ∃ x, y3.setCell ⟨g5, 2, none⟩ (.string ((⟨#[110]⟩ : ByteArray) ++ bstr [p1])) = x := ⟨_, rfl⟩
          rw [hu1] at h1
          have hz2 : u1 = wq := hu1.symm.trans hwq
          subst hz2
          replace hS : (fun W : World => ∃ nm v, ChW w g A n c bs g5 ⟨1, 0, nm, 1 + (r2 : Int), v, 0, 0⟩ W) u1 := ⟨_, _, h1⟩
          clear hK hwq hu1 e2 f2 hC
          (try simp only [Act.put])
          refine wpAnyK_take (fun _ => rfl) (fun _ _ _ h k => h.trans k) (fun _ _ h k => k ▸ h) (i := 13) (oi := { dst := some 34, op := _, type := _, pos := _, after := _, guard := _ }) (v := ?_) rfl (by kernel_rfl) (by kernel_rfl) (by kernel_rfl) (fun _ _ _ h => h) (Or.inl (Or.inl ⟨by rfl, ?_⟩)) hS ?_
          rotate_left
          focus ((intro w hSw; (try dsimp only at hSw); skip; go_simp); (try with_reducible rfl))
          intro wq hwq
          subst hwq
          (try simp only [Act.put, List.setIfInBounds_toArray, List.set_cons_zero, List.set_cons_succ])
          refine wpAnyK_all (rs := [14]) (by kernel_rfl) (by simp) (fun i hi => ?_)
          simp only [List.mem_cons, List.not_mem_nil, or_false] at hi
          subst hi
          refine stepK (o := { dst := none, op := _, type := _, pos := _, after := _, guard := _ }) rfl (fun K hK => ?_)
          rw [if_pos (by rfl)]
          refine wp_store_mid 29 _ _ rfl g5 4 #[.int .i64 vt, .int .i64 vi, .string vs] rfl rfl (fun j hj => by have hj2 : j < 3 := hj; exact ⟨by rw [cell_of_row u1 g5 (4 + j) _ _ _ h1.blk, Array.getElem?_eq_getElem (show 4 + j < 9 by omega)]; rfl, h1.blk.frozen (4 + j)⟩) (by kernel_rfl) (by simp [Value.oneCell']) ?_
          have h2 : ChW w g A n c bs g5 ⟨1, 0, (⟨#[110]⟩ : ByteArray) ++ bstr [p1], 1 + (r2 : Int), (vt, vi, vs), 0, 0⟩ (u1.setCells g5 4 [.int .i64 vt, .int .i64 vi, .string vs]) := ((h1.set_ 4 (.int .i64 vt) ⟨1, 0, (⟨#[110]⟩ : ByteArray) ++ bstr [p1], 1 + (r2 : Int), (vt, 0, ⟨#[]⟩), 0, 0⟩ rfl HNM.out).set_ 5 (.int .i64 vi) ⟨1, 0, (⟨#[110]⟩ : ByteArray) ++ bstr [p1], 1 + (r2 : Int), (vt, vi, ⟨#[]⟩), 0, 0⟩ rfl HNM.out).set_ 6 (.string vs) ⟨1, 0, (⟨#[110]⟩ : ByteArray) ++ bstr [p1], 1 + (r2 : Int), (vt, vi, vs), 0, 0⟩ rfl HNM.out
          refine hK _ _ ⟨_, _, h2⟩ fun wq hwq => ?_
          obtain ⟨u2, hu2⟩ : ∃ x, u1.setCells g5 4 [.int .i64 vt, .int .i64 vi, .string vs] = x := ⟨_, rfl⟩
          rw [hu2] at h2
          have hz2 : u2 = wq := hu2.symm.trans hwq
          subst hz2
          clear hK hwq hu2 h1
          (try simp only [Act.put])
          refine wpAnyK_done (by kernel_rfl) ?_ _
          go_wp2_with fail
          go_meet
          exact ⟨rfl, _, h2⟩
      · refine stepK (o := { dst := some 32, op := _, type := _, pos := _, after := _, guard := _ }) rfl (fun K hK => ?_)
        go_simp
        refine (valueP (1 + (r2 : Int)) g A n c bs y1 HCC.out hC.pk).mono ?_
        rintro e y2 ⟨vt, vi, vs, rfl, -, hp, hf, -⟩
        replace hC := hC.to hp hf
        replace hS : (fun W : World => ∃ nm v, ChW w g A n c bs g5 ⟨1, 0, nm, 1 + (r2 : Int), v, 0, 0⟩ W) y2 := ⟨_, _, hC⟩
        refine hK _ _ hS fun wq hwq => ?_
        subst hwq
        clear hK hp hf
        (try simp only [Act.put, List.setIfInBounds_toArray, List.set_cons_zero, List.set_cons_succ])
        refine wpAnyK_all (rs := [4]) (by kernel_rfl) (by simp) (fun i hi => ?_)
        simp only [List.mem_cons, List.not_mem_nil, or_false] at hi
        subst hi
        refine stepK (o := { dst := some 26, op := _, type := _, pos := _, after := _, guard := _ }) rfl (fun K hK => ?_)
        go_simp
        obtain ⟨gl, hgl⟩ : ∃ x, y2.heap.size = x := ⟨_, rfl⟩
        obtain ⟨y3, hwl⟩ : ∃ x : World, y2.alloc (.cells #[.int .u8 (p1 : Int)] 5) = x := ⟨_, rfl⟩
        have hlit : Has y3 (some ⟨gl, 0, none⟩) (ints .u8 [p1]) := hwl ▸ hgl ▸ (Has.lit y2 5 .u8 [p1])
        have HGL := Lib.hid (show g < gl from hgl ▸ hC.pk.lt)
        have HLIT := Lib.hid (HasX.mk3 hlit HGL.out)
        have ll : Later y2 y3 := hwl ▸ Later.new _ _
        try rw [hgl]
        rw [hwl]
        replace hC := hC.later ll
        replace hS : (fun W : World => ∃ nm v, ChW w g A n c bs g5 ⟨1, 0, nm, 1 + (r2 : Int), v, 0, 0⟩ W) y3 := ⟨_, _, hC⟩
        refine hK _ _ hS fun wq hwq => ?_
        subst hwq
        clear hK hwl hgl ll hlit
        (try simp only [Act.put, List.setIfInBounds_toArray, List.set_cons_zero, List.set_cons_succ])
        refine wpAnyK_all (rs := [5]) (by kernel_rfl) (by simp) (fun i hi => ?_)
        simp only [List.mem_cons, List.not_mem_nil, or_false] at hi
        subst hi
        refine stepK (o := { dst := some 27, op := _, type := _, pos := _, after := _, guard := _ }) rfl (fun K hK => ?_)
        have hconv := conv_str (some ⟨gl, 0, none⟩) 1 1 [p1] rfl y3 _ HLIT.out.has
        go_simp
        refine hK _ _ hS fun wq hwq => ?_
        subst hwq
        clear hK hconv
        (try simp only [Act.put, List.setIfInBounds_toArray, List.set_cons_zero, List.set_cons_succ])
        have HNM := Lib.hid (sz1 110 p1)
        refine wpAnyK_take (fun _ => rfl) (fun _ _ _ h k => h.trans k) (fun _ _ h k => k ▸ h) (i := 6) (oi := { dst := some 28, op := _, type := _, pos := _, after := _, guard := _ }) (v := ?_) rfl (by kernel_rfl) (by kernel_rfl) (by kernel_rfl) (fun _ _ _ h => h) (Or.inl (Or.inl ⟨by rfl, ?_⟩)) hS ?_
        rotate_left
        focus ((intro w hSw; (try dsimp only at hSw); skip; go_simp); (try with_reducible rfl))
        intro wq hwq
        subst hwq
        (try simp only [Act.put, List.setIfInBounds_toArray, List.set_cons_zero, List.set_cons_succ])
        refine wpAnyK_take (fun _ => rfl) (fun _ _ _ h k => h.trans k) (fun _ _ h k => k ▸ h) (i := 11) (oi := { dst := some 33, op := _, type := _, pos := _, after := _, guard := _ }) (v := ?_) rfl (by kernel_rfl) (by kernel_rfl) (by kernel_rfl) (fun _ _ _ h => h) (Or.inl (Or.inl ⟨by rfl, ?_⟩)) hS ?_
        rotate_left
        focus ((intro w hSw; (try dsimp only at hSw); skip; go_simp); (try with_reducible rfl))
        intro wq hwq
        subst hwq
        (try simp only [Act.put, List.setIfInBounds_toArray, List.set_cons_zero, List.set_cons_succ])
        refine wpAnyK_all (rs := [12]) (by kernel_rfl) (by simp) (fun i hi => ?_)
        simp only [List.mem_cons, List.not_mem_nil, or_false] at hi
        subst hi
        refine stepK (o := { dst := none, op := _, type := _, pos := _, after := _, guard := _ }) rfl (fun K hK => ?_)
        have e2 : y3.cell? ⟨g5, 2, none⟩ = some (.string ⟨#[]⟩) := hC.blk.cell 2 _ rfl
        have f2 := hC.blk.frozen 2
        go_simp
        have h1 : ChW w g A n c bs g5 ⟨1, 0, (⟨#[110]⟩ : ByteArray) ++ bstr [p1], 1 + (r2 : Int), (0, 0, ⟨#[]⟩), 0, 0⟩ (y3.setCell ⟨g5, 2, none⟩ (.string ((⟨#[110]⟩ : ByteArray) ++ bstr [p1]))) := hC.set_ 2 _ ⟨1, 0, (⟨#[110]⟩ : ByteArray) ++ bstr [p1], 1 + (r2 : Int), (0, 0, ⟨#[]⟩), 0, 0⟩ rfl HNM.out
        refine hK _ _ ⟨_, _, h1⟩ fun wq hwq => ?_
        obtain ⟨u1, hu1⟩ : ∃ x, y3.setCell ⟨g5, 2, none⟩ (.string ((⟨#[110]⟩ : ByteArray) ++ bstr [p1])) = x := ⟨_, rfl⟩
        rw [hu1] at h1
        have hz2 : u1 = wq := hu1.symm.trans hwq
        subst hz2
        replace hS : (fun W : World => ∃ nm v, ChW w g A n c bs g5 ⟨1, 0, nm, 1 + (r2 : Int), v, 0, 0⟩ W) u1 := ⟨_, _, h1⟩
        clear hK hwq hu1 e2 f2 hC
        (try simp only [Act.put])
        refine wpAnyK_take (fun _ => rfl) (fun _ _ _ h k => h.trans k) (fun _ _ h k => k ▸ h) (i := 13) (oi := { dst := some 34, op := _, type := _, pos := _, after := _, guard := _ }) (v := ?_) rfl (by kernel_rfl) (by kernel_rfl) (by kernel_rfl) (fun _ _ _ h => h) (Or.inl (Or.inl ⟨by rfl, ?_⟩)) hS ?_
        rotate_left
        focus ((intro w hSw; (try dsimp only at hSw); skip; go_simp); (try with_reducible rfl))
        intro wq hwq
        subst hwq
        (try simp only [Act.put, List.setIfInBounds_toArray, List.set_cons_zero, List.set_cons_succ])
        refine wpAnyK_all (rs := [14]) (by kernel_rfl) (by simp) (fun i hi => ?_)
        simp only [List.mem_cons, List.not_mem_nil, or_false] at hi
        subst hi
        refine stepK (o := { dst := none, op := _, type := _, pos := _, after := _, guard := _ }) rfl (fun K hK => ?_)
        rw [if_pos (by rfl)]
        refine wp_store_mid 29 _ _ rfl g5 4 #[.int .i64 vt, .int .i64 vi, .string vs] rfl rfl (fun j hj => by have hj2 : j < 3 := hj; exact ⟨by rw [cell_of_row u1 g5 (4 + j) _ _ _ h1.blk, Array.getElem?_eq_getElem (show 4 + j < 9 by omega)]; rfl, h1.blk.frozen (4 + j)⟩) (by kernel_rfl) (by simp [Value.oneCell']) ?_
        have h2 : ChW w g A n c bs g5 ⟨1, 0, (⟨#[110]⟩ : ByteArray) ++ bstr [p1], 1 + (r2 : Int), (vt, vi, vs), 0, 0⟩ (u1.setCells g5 4 [.int .i64 vt, .int .i64 vi, .string vs]) := ((h1.set_ 4 (.int .i64 vt) ⟨1, 0, (⟨#[110]⟩ : ByteArray) ++ bstr [p1], 1 + (r2 : Int), (vt, 0, ⟨#[]⟩), 0, 0⟩ rfl HNM.out).set_ 5 (.int .i64 vi) ⟨1, 0, (⟨#[110]⟩ : ByteArray) ++ bstr [p1], 1 + (r2 : Int), (vt, vi, ⟨#[]⟩), 0, 0⟩ rfl HNM.out).set_ 6 (.string vs) ⟨1, 0, (⟨#[110]⟩ : ByteArray) ++ bstr [p1], 1 + (r2 : Int), (vt, vi, vs), 0, 0⟩ rfl HNM.out
        refine hK _ _ ⟨_, _, h2⟩ fun wq hwq => ?_
        obtain ⟨u2, hu2⟩ : ∃ x, u1.setCells g5 4 [.int .i64 vt, .int .i64 vi, .string vs] = x := ⟨_, rfl⟩
        rw [hu2] at h2
        have hz2 : u2 = wq := hu2.symm.trans hwq
        subst hz2
        clear hK hwq hu2 h1
        (try simp only [Act.put])
        refine wpAnyK_done (by kernel_rfl) ?_ _
        go_wp2_with fail
        go_meet
        exact ⟨rfl, _, h2⟩
    · have HCH := Lib.hid (show ChW w g A n c bs g5 ⟨2, id, ⟨#[]⟩, 0, (0, 0, ⟨#[]⟩), 0, 0⟩ wc from HCH.out)
      have k0 := HCH.out.blk.cell 0 _ rfl
      have f0 := HCH.out.blk.frozen 0
      have k1 := HCH.out.blk.cell 1 _ rfl
      have f1 := HCH.out.blk.frozen 1
      have k2 := HCH.out.blk.cell 2 _ rfl
      have f2 := HCH.out.blk.frozen 2
      have k3 := HCH.out.blk.cell 3 _ rfl
      have f3 := HCH.out.blk.frozen 3
      have k4 := HCH.out.blk.cell 4 _ rfl
      have f4 := HCH.out.blk.frozen 4
      have k5 := HCH.out.blk.cell 5 _ rfl
      have f5 := HCH.out.blk.frozen 5
      have k6 := HCH.out.blk.cell 6 _ rfl
      have f6 := HCH.out.blk.frozen 6
      have k7 := HCH.out.blk.cell 7 _ rfl
      have f7 := HCH.out.blk.frozen 7
      have k8 := HCH.out.blk.cell 8 _ rfl
      have f8 := HCH.out.blk.frozen 8
      clear hr
      go_wp2_with fail
      clear k0 f0 k1 f1 k2 f2 k3 f3 k4 f4 k5 f5 k6 f6 k7 f7 k8 f8
      go_meet
      exact ⟨rfl, ⟨2, id, ⟨#[]⟩, 0, (0, 0, ⟨#[]⟩), 0, 0⟩, HCH.out⟩
    · have HCH := Lib.hid (show ChW w g A n c bs g5 ⟨3, id, ⟨#[]⟩, 0, (0, 0, ⟨#[]⟩), 0, 0⟩ wc from HCH.out)
      have k0 := HCH.out.blk.cell 0 _ rfl
      have f0 := HCH.out.blk.frozen 0
      have k1 := HCH.out.blk.cell 1 _ rfl
      have f1 := HCH.out.blk.frozen 1
      have k2 := HCH.out.blk.cell 2 _ rfl
      have f2 := HCH.out.blk.frozen 2
      have k3 := HCH.out.blk.cell 3 _ rfl
      have f3 := HCH.out.blk.frozen 3
      have k4 := HCH.out.blk.cell 4 _ rfl
      have f4 := HCH.out.blk.frozen 4
      have k5 := HCH.out.blk.cell 5 _ rfl
      have f5 := HCH.out.blk.frozen 5
      have k6 := HCH.out.blk.cell 6 _ rfl
      have f6 := HCH.out.blk.frozen 6
      have k7 := HCH.out.blk.cell 7 _ rfl
      have f7 := HCH.out.blk.frozen 7
      have k8 := HCH.out.blk.cell 8 _ rfl
      have f8 := HCH.out.blk.frozen 8
      clear hr
      go_wp2_with fail
      clear k0 f0 k1 f1 k2 f2 k3 f3 k4 f4 k5 f5 k6 f6 k7 f7 k8 f8
      refine (num_any 9 g A n c bs wc (by omega) HCC.out HCH.out.pk).mono ?_
      rintro e wd ⟨r2, hr2, rfl, hp, hf⟩
      have HCH := Lib.hid (HCH.out.to hp hf)
      clear hp hf
      obtain ⟨p1, hp1⟩ : ∃ x, 97 + r2 = x := ⟨_, rfl⟩
      obtain ⟨gl, hgl⟩ : ∃ x, wd.heap.size = x := ⟨_, rfl⟩
      obtain ⟨wl, hwl⟩ : ∃ x : World, wd.alloc (.cells #[.int .u8 (p1 : Int)] 5) = x := ⟨_, rfl⟩
      have hlit : Has wl (some ⟨gl, 0, none⟩) (ints .u8 [p1]) := hwl ▸ hgl ▸ (Has.lit wd 5 .u8 [p1])
      have hconv := conv_str (some ⟨gl, 0, none⟩) 1 1 [p1] rfl wl _ hlit
      have ll : Later wd wl := hwl ▸ Later.new _ _
      have HCH := Lib.hid (HCH.out.later ll)
      have HNM := Lib.hid (sz1 114 p1)
      have k0 := HCH.out.blk.cell 0 _ rfl
      have f0 := HCH.out.blk.frozen 0
      have k1 := HCH.out.blk.cell 1 _ rfl
      have f1 := HCH.out.blk.frozen 1
      have k2 := HCH.out.blk.cell 2 _ rfl
      have f2 := HCH.out.blk.frozen 2
      have k3 := HCH.out.blk.cell 3 _ rfl
      have f3 := HCH.out.blk.frozen 3
      have k4 := HCH.out.blk.cell 4 _ rfl
      have f4 := HCH.out.blk.frozen 4
      have k5 := HCH.out.blk.cell 5 _ rfl
      have f5 := HCH.out.blk.frozen 5
      have k6 := HCH.out.blk.cell 6 _ rfl
      have f6 := HCH.out.blk.frozen 6
      have k7 := HCH.out.blk.cell 7 _ rfl
      have f7 := HCH.out.blk.frozen 7
      have k8 := HCH.out.blk.cell 8 _ rfl
      have f8 := HCH.out.blk.frozen 8
      have hy1 : (97 + (r2 : Int)) = (p1 : Int) := by omega
      have hy3 : (97 + (r2 : Int)) % 256 = (p1 : Int) := by omega
      have hy5 : (p1 : Int) % 256 = (p1 : Int) := by omega
      clear hlit ll
      go_wp2_with fail
      go_meet
      exact ⟨rfl, _, HCH.out.set_ 2 _ ⟨3, id, (⟨#[114]⟩ : ByteArray) ++ bstr [p1], 0, (0, 0, ⟨#[]⟩), 0, 0⟩ rfl HNM.out⟩
    · have HCH := Lib.hid (show ChW w g A n c bs g5 ⟨4, id, ⟨#[]⟩, 0, (0, 0, ⟨#[]⟩), 0, 0⟩ wc from HCH.out)
      have k0 := HCH.out.blk.cell 0 _ rfl
      have f0 := HCH.out.blk.frozen 0
      have k1 := HCH.out.blk.cell 1 _ rfl
      have f1 := HCH.out.blk.frozen 1
      have k2 := HCH.out.blk.cell 2 _ rfl
      have f2 := HCH.out.blk.frozen 2
      have k3 := HCH.out.blk.cell 3 _ rfl
      have f3 := HCH.out.blk.frozen 3
      have k4 := HCH.out.blk.cell 4 _ rfl
      have f4 := HCH.out.blk.frozen 4
      have k5 := HCH.out.blk.cell 5 _ rfl
      have f5 := HCH.out.blk.frozen 5
      have k6 := HCH.out.blk.cell 6 _ rfl
      have f6 := HCH.out.blk.frozen 6
      have k7 := HCH.out.blk.cell 7 _ rfl
      have f7 := HCH.out.blk.frozen 7
      have k8 := HCH.out.blk.cell 8 _ rfl
      have f8 := HCH.out.blk.frozen 8
      clear hr
      go_wp2_with fail
      clear k0 f0 k1 f1 k2 f2 k3 f3 k4 f4 k5 f5 k6 f6 k7 f7 k8 f8
      go_meet
      exact ⟨rfl, ⟨4, id, ⟨#[]⟩, 0, (0, 0, ⟨#[]⟩), 0, 0⟩, HCH.out⟩
    · have HCH := Lib.hid (show ChW w g A n c bs g5 ⟨5, id, ⟨#[]⟩, 0, (0, 0, ⟨#[]⟩), 0, 0⟩ wc from HCH.out)
      have k0 := HCH.out.blk.cell 0 _ rfl
      have f0 := HCH.out.blk.frozen 0
      have k1 := HCH.out.blk.cell 1 _ rfl
      have f1 := HCH.out.blk.frozen 1
      have k2 := HCH.out.blk.cell 2 _ rfl
      have f2 := HCH.out.blk.frozen 2
      have k3 := HCH.out.blk.cell 3 _ rfl
      have f3 := HCH.out.blk.frozen 3
      have k4 := HCH.out.blk.cell 4 _ rfl
      have f4 := HCH.out.blk.frozen 4
      have k5 := HCH.out.blk.cell 5 _ rfl
      have f5 := HCH.out.blk.frozen 5
      have k6 := HCH.out.blk.cell 6 _ rfl
      have f6 := HCH.out.blk.frozen 6
      have k7 := HCH.out.blk.cell 7 _ rfl
      have f7 := HCH.out.blk.frozen 7
      have k8 := HCH.out.blk.cell 8 _ rfl
      have f8 := HCH.out.blk.frozen 8
      clear hr
      go_wp2_with fail
      clear k0 f0 k1 f1 k2 f2 k3 f3 k4 f4 k5 f5 k6 f6 k7 f7 k8 f8
      refine (num_any 9 g A n c bs wc (by omega) HCC.out HCH.out.pk).mono ?_
      rintro e wd ⟨r2, hr2, rfl, hp, hf⟩
      have HCH := Lib.hid (HCH.out.to hp hf)
      clear hp hf
      obtain ⟨p1, hp1⟩ : ∃ x, 97 + r2 = x := ⟨_, rfl⟩
      obtain ⟨gl, hgl⟩ : ∃ x, wd.heap.size = x := ⟨_, rfl⟩
      obtain ⟨wl, hwl⟩ : ∃ x : World, wd.alloc (.cells #[.int .u8 (p1 : Int)] 5) = x := ⟨_, rfl⟩
      have hlit : Has wl (some ⟨gl, 0, none⟩) (ints .u8 [p1]) := hwl ▸ hgl ▸ (Has.lit wd 5 .u8 [p1])
      have hconv := conv_str (some ⟨gl, 0, none⟩) 1 1 [p1] rfl wl _ hlit
      have ll : Later wd wl := hwl ▸ Later.new _ _
      have HCH := Lib.hid (HCH.out.later ll)
      have HNM := Lib.hid (sz1 115 p1)
      have k0 := HCH.out.blk.cell 0 _ rfl
      have f0 := HCH.out.blk.frozen 0
      have k1 := HCH.out.blk.cell 1 _ rfl
      have f1 := HCH.out.blk.frozen 1
      have k2 := HCH.out.blk.cell 2 _ rfl
      have f2 := HCH.out.blk.frozen 2
      have k3 := HCH.out.blk.cell 3 _ rfl
      have f3 := HCH.out.blk.frozen 3
      have k4 := HCH.out.blk.cell 4 _ rfl
      have f4 := HCH.out.blk.frozen 4
      have k5 := HCH.out.blk.cell 5 _ rfl
      have f5 := HCH.out.blk.frozen 5
      have k6 := HCH.out.blk.cell 6 _ rfl
      have f6 := HCH.out.blk.frozen 6
      have k7 := HCH.out.blk.cell 7 _ rfl
      have f7 := HCH.out.blk.frozen 7
      have k8 := HCH.out.blk.cell 8 _ rfl
      have f8 := HCH.out.blk.frozen 8
      have hy1 : (97 + (r2 : Int)) = (p1 : Int) := by omega
      have hy3 : (97 + (r2 : Int)) % 256 = (p1 : Int) := by omega
      have hy5 : (p1 : Int) % 256 = (p1 : Int) := by omega
      clear hlit ll
      go_wp2_with fail
      obtain ⟨wm, hwm⟩ : ∃ x, (wl.setCell ⟨g5, 2, none⟩ (.string ((⟨#[115]⟩ : ByteArray) ++ bstr [p1]))).setCell ⟨g5, 7, none⟩ (.int .u8 58) = x := ⟨_, rfl⟩
      have HCH := Lib.hid (show ChW w g A n c bs g5 ⟨5, id, (⟨#[115]⟩ : ByteArray) ++ bstr [p1], 0, (0, 0, ⟨#[]⟩), 58, 0⟩ wm from hwm ▸ (HCH.out.set_ 2 _ ⟨5, id, (⟨#[115]⟩ : ByteArray) ++ bstr [p1], 0, (0, 0, ⟨#[]⟩), 0, 0⟩ rfl HNM.out).set_ 7 _ ⟨5, id, (⟨#[115]⟩ : ByteArray) ++ bstr [p1], 0, (0, 0, ⟨#[]⟩), 58, 0⟩ rfl HNM.out)
      rw [hwm]
      clear k0 f0 k1 f1 k2 f2 k3 f3 k4 f4 k5 f5 k6 f6 k7 f7 k8 f8
      clear hwm hconv hgl hwl hy1 hy3 hy5
      refine (num_any 2 g A n c bs wm (by omega) HCC.out HCH.out.pk).mono ?_
      rintro e wn ⟨r3, hr3, rfl, hp, hf⟩
      have HCH := Lib.hid (HCH.out.to hp hf)
      clear hp hf
      by_cases h0 : r3 = 0
      · subst h0
        have k0 := HCH.out.blk.cell 0 _ rfl
        have f0 := HCH.out.blk.frozen 0
        have k1 := HCH.out.blk.cell 1 _ rfl
        have f1 := HCH.out.blk.frozen 1
        have k2 := HCH.out.blk.cell 2 _ rfl
        have f2 := HCH.out.blk.frozen 2
        have k3 := HCH.out.blk.cell 3 _ rfl
        have f3 := HCH.out.blk.frozen 3
        have k4 := HCH.out.blk.cell 4 _ rfl
        have f4 := HCH.out.blk.frozen 4
        have k5 := HCH.out.blk.cell 5 _ rfl
        have f5 := HCH.out.blk.frozen 5
        have k6 := HCH.out.blk.cell 6 _ rfl
        have f6 := HCH.out.blk.frozen 6
        have k7 := HCH.out.blk.cell 7 _ rfl
        have f7 := HCH.out.blk.frozen 7
        have k8 := HCH.out.blk.cell 8 _ rfl
        have f8 := HCH.out.blk.frozen 8
        go_wp2_with fail
        go_meet
        exact ⟨rfl, _, HCH.out.set_ 1 _ ⟨5, 2, (⟨#[115]⟩ : ByteArray) ++ bstr [p1], 0, (0, 0, ⟨#[]⟩), 58, 0⟩ rfl HNM.out⟩
      · have hz : ((r3 : Int) == 0) = false := by simp; omega
        go_wp2_with fail
        go_meet
        exact ⟨rfl, _, HCH.out⟩
    · have HCH := Lib.hid (show ChW w g A n c bs g5 ⟨6, id, ⟨#[]⟩, 0, (0, 0, ⟨#[]⟩), 0, 0⟩ wc from HCH.out)
      have k0 := HCH.out.blk.cell 0 _ rfl
      have f0 := HCH.out.blk.frozen 0
      have k1 := HCH.out.blk.cell 1 _ rfl
      have f1 := HCH.out.blk.frozen 1
      have k2 := HCH.out.blk.cell 2 _ rfl
      have f2 := HCH.out.blk.frozen 2
      have k3 := HCH.out.blk.cell 3 _ rfl
      have f3 := HCH.out.blk.frozen 3
      have k4 := HCH.out.blk.cell 4 _ rfl
      have f4 := HCH.out.blk.frozen 4
      have k5 := HCH.out.blk.cell 5 _ rfl
      have f5 := HCH.out.blk.frozen 5
      have k6 := HCH.out.blk.cell 6 _ rfl
      have f6 := HCH.out.blk.frozen 6
      have k7 := HCH.out.blk.cell 7 _ rfl
      have f7 := HCH.out.blk.frozen 7
      have k8 := HCH.out.blk.cell 8 _ rfl
      have f8 := HCH.out.blk.frozen 8
      clear hr
      go_wp2_with fail
      clear k0 f0 k1 f1 k2 f2 k3 f3 k4 f4 k5 f5 k6 f6 k7 f7 k8 f8
      refine (num_any 4 g A n c bs wc (by omega) HCC.out HCH.out.pk).mono ?_
      rintro e wd ⟨r2, hr2, rfl, hp, hf⟩
      have HCH := Lib.hid (HCH.out.to hp hf)
      clear hp hf
      by_cases h0 : r2 = 0
      · subst h0
        have k0 := HCH.out.blk.cell 0 _ rfl
        have f0 := HCH.out.blk.frozen 0
        have k1 := HCH.out.blk.cell 1 _ rfl
        have f1 := HCH.out.blk.frozen 1
        have k2 := HCH.out.blk.cell 2 _ rfl
        have f2 := HCH.out.blk.frozen 2
        have k3 := HCH.out.blk.cell 3 _ rfl
        have f3 := HCH.out.blk.frozen 3
        have k4 := HCH.out.blk.cell 4 _ rfl
        have f4 := HCH.out.blk.frozen 4
        have k5 := HCH.out.blk.cell 5 _ rfl
        have f5 := HCH.out.blk.frozen 5
        have k6 := HCH.out.blk.cell 6 _ rfl
        have f6 := HCH.out.blk.frozen 6
        have k7 := HCH.out.blk.cell 7 _ rfl
        have f7 := HCH.out.blk.frozen 7
        have k8 := HCH.out.blk.cell 8 _ rfl
        have f8 := HCH.out.blk.frozen 8
        go_wp2_with fail
        go_meet
        exact ⟨rfl, _, HCH.out.set_ 1 _ ⟨6, 0, ⟨#[]⟩, 0, (0, 0, ⟨#[]⟩), 0, 0⟩ rfl sz0⟩
      · have hz : ((r2 : Int) == 0) = false := by simp; omega
        go_wp2_with fail
        go_meet
        exact ⟨rfl, _, HCH.out⟩
    · have HCH := Lib.hid (show ChW w g A n c bs g5 ⟨7, id, ⟨#[]⟩, 0, (0, 0, ⟨#[]⟩), 0, 0⟩ wc from HCH.out)
      have k0 := HCH.out.blk.cell 0 _ rfl
      have f0 := HCH.out.blk.frozen 0
      have k1 := HCH.out.blk.cell 1 _ rfl
      have f1 := HCH.out.blk.frozen 1
      have k2 := HCH.out.blk.cell 2 _ rfl
      have f2 := HCH.out.blk.frozen 2
      have k3 := HCH.out.blk.cell 3 _ rfl
      have f3 := HCH.out.blk.frozen 3
      have k4 := HCH.out.blk.cell 4 _ rfl
      have f4 := HCH.out.blk.frozen 4
      have k5 := HCH.out.blk.cell 5 _ rfl
      have f5 := HCH.out.blk.frozen 5
      have k6 := HCH.out.blk.cell 6 _ rfl
      have f6 := HCH.out.blk.frozen 6
      have k7 := HCH.out.blk.cell 7 _ rfl
      have f7 := HCH.out.blk.frozen 7
      have k8 := HCH.out.blk.cell 8 _ rfl
      have f8 := HCH.out.blk.frozen 8
      clear hr
      go_wp2_with fail
      clear k0 f0 k1 f1 k2 f2 k3 f3 k4 f4 k5 f5 k6 f6 k7 f7 k8 f8
      refine (num_any 4 g A n c bs wc (by omega) HCC.out HCH.out.pk).mono ?_
      rintro e wd ⟨r2, hr2, rfl, hp, hf⟩
      have HCH := Lib.hid (HCH.out.to hp hf)
      clear hp hf
      have k0 := HCH.out.blk.cell 0 _ rfl
      have f0 := HCH.out.blk.frozen 0
      have k1 := HCH.out.blk.cell 1 _ rfl
      have f1 := HCH.out.blk.frozen 1
      have k2 := HCH.out.blk.cell 2 _ rfl
      have f2 := HCH.out.blk.frozen 2
      have k3 := HCH.out.blk.cell 3 _ rfl
      have f3 := HCH.out.blk.frozen 3
      have k4 := HCH.out.blk.cell 4 _ rfl
      have f4 := HCH.out.blk.frozen 4
      have k5 := HCH.out.blk.cell 5 _ rfl
      have f5 := HCH.out.blk.frozen 5
      have k6 := HCH.out.blk.cell 6 _ rfl
      have f6 := HCH.out.blk.frozen 6
      have k7 := HCH.out.blk.cell 7 _ rfl
      have f7 := HCH.out.blk.frozen 7
      have k8 := HCH.out.blk.cell 8 _ rfl
      have f8 := HCH.out.blk.frozen 8
      have hw2 : IntKind.i64.wrap (1 + (r2 : Int)) = 1 + (r2 : Int) := IntWalk.i64_in _ ⟨by omega, by omega⟩
      go_wp2_with fail
      go_meet
      exact ⟨rfl, _, HCH.out.set_ 8 _ ⟨7, id, ⟨#[]⟩, 0, (0, 0, ⟨#[]⟩), 0, (1 + (r2 : Int))⟩ rfl sz0⟩
    · have HCH := Lib.hid (show ChW w g A n c bs g5 ⟨8, id, ⟨#[]⟩, 0, (0, 0, ⟨#[]⟩), 0, 0⟩ wc from HCH.out)
      have k0 := HCH.out.blk.cell 0 _ rfl
      have f0 := HCH.out.blk.frozen 0
      have k1 := HCH.out.blk.cell 1 _ rfl
      have f1 := HCH.out.blk.frozen 1
      have k2 := HCH.out.blk.cell 2 _ rfl
      have f2 := HCH.out.blk.frozen 2
      have k3 := HCH.out.blk.cell 3 _ rfl
      have f3 := HCH.out.blk.frozen 3
      have k4 := HCH.out.blk.cell 4 _ rfl
      have f4 := HCH.out.blk.frozen 4
      have k5 := HCH.out.blk.cell 5 _ rfl
      have f5 := HCH.out.blk.frozen 5
      have k6 := HCH.out.blk.cell 6 _ rfl
      have f6 := HCH.out.blk.frozen 6
      have k7 := HCH.out.blk.cell 7 _ rfl
      have f7 := HCH.out.blk.frozen 7
      have k8 := HCH.out.blk.cell 8 _ rfl
      have f8 := HCH.out.blk.frozen 8
      clear hr
      go_wp2_with fail
      go_meet
      exact ⟨rfl, _, HCH.out.set_ 1 _ ⟨8, 0, ⟨#[]⟩, 0, (0, 0, ⟨#[]⟩), 0, 0⟩ rfl sz0⟩
    · have HCH := Lib.hid (show ChW w g A n c bs g5 ⟨9, id, ⟨#[]⟩, 0, (0, 0, ⟨#[]⟩), 0, 0⟩ wc from HCH.out)
      have k0 := HCH.out.blk.cell 0 _ rfl
      have f0 := HCH.out.blk.frozen 0
      have k1 := HCH.out.blk.cell 1 _ rfl
      have f1 := HCH.out.blk.frozen 1
      have k2 := HCH.out.blk.cell 2 _ rfl
      have f2 := HCH.out.blk.frozen 2
      have k3 := HCH.out.blk.cell 3 _ rfl
      have f3 := HCH.out.blk.frozen 3
      have k4 := HCH.out.blk.cell 4 _ rfl
      have f4 := HCH.out.blk.frozen 4
      have k5 := HCH.out.blk.cell 5 _ rfl
      have f5 := HCH.out.blk.frozen 5
      have k6 := HCH.out.blk.cell 6 _ rfl
      have f6 := HCH.out.blk.frozen 6
      have k7 := HCH.out.blk.cell 7 _ rfl
      have f7 := HCH.out.blk.frozen 7
      have k8 := HCH.out.blk.cell 8 _ rfl
      have f8 := HCH.out.blk.frozen 8
      clear hr
      go_wp2_with fail
      clear k0 f0 k1 f1 k2 f2 k3 f3 k4 f4 k5 f5 k6 f6 k7 f7 k8 f8
      refine (num_any 5 g A n c bs wc (by omega) HCC.out HCH.out.pk).mono ?_
      rintro e wd ⟨r2, hr2, rfl, hp, hf⟩
      have HCH := Lib.hid (HCH.out.to hp hf)
      clear hp hf
      have k0 := HCH.out.blk.cell 0 _ rfl
      have f0 := HCH.out.blk.frozen 0
      have k1 := HCH.out.blk.cell 1 _ rfl
      have f1 := HCH.out.blk.frozen 1
      have k2 := HCH.out.blk.cell 2 _ rfl
      have f2 := HCH.out.blk.frozen 2
      have k3 := HCH.out.blk.cell 3 _ rfl
      have f3 := HCH.out.blk.frozen 3
      have k4 := HCH.out.blk.cell 4 _ rfl
      have f4 := HCH.out.blk.frozen 4
      have k5 := HCH.out.blk.cell 5 _ rfl
      have f5 := HCH.out.blk.frozen 5
      have k6 := HCH.out.blk.cell 6 _ rfl
      have f6 := HCH.out.blk.frozen 6
      have k7 := HCH.out.blk.cell 7 _ rfl
      have f7 := HCH.out.blk.frozen 7
      have k8 := HCH.out.blk.cell 8 _ rfl
      have f8 := HCH.out.blk.frozen 8
      have hw2 : IntKind.i64.wrap (1 + (r2 : Int)) = 1 + (r2 : Int) := IntWalk.i64_in _ ⟨by omega, by omega⟩
      go_wp2_with fail
      go_meet
      exact ⟨rfl, _, HCH.out.set_ 8 _ ⟨9, id, ⟨#[]⟩, 0, (0, 0, ⟨#[]⟩), 0, (1 + (r2 : Int))⟩ rfl sz0⟩
  case rest =>
  obtain ⟨rfl, ch, hch⟩ := hcut
  have HCH := Lib.hid hch
  clear hch
  have hres : Blk wc (h0 + 1) #[.int .i64 0, .int .i64 0, .string ⟨#[]⟩, .int .i64 0, .int .i64 0, .int .i64 0, .string ⟨#[]⟩, .int .u8 0, .int .i64 0] 31 := HH0.out ▸ HCH.out.res
  have k0 : wc.cell? ⟨g5, 0, none⟩ = some (.int .i64 ch.kind) := HCH.out.blk.cell 0 _ rfl
  have k1 : wc.cell? ⟨g5, 1, none⟩ = some (.int .i64 ch.col) := HCH.out.blk.cell 1 _ rfl
  have k2 : wc.cell? ⟨g5, 2, none⟩ = some (.string ch.name) := HCH.out.blk.cell 2 _ rfl
  have k3 : wc.cell? ⟨g5, 3, none⟩ = some (.int .i64 ch.typ) := HCH.out.blk.cell 3 _ rfl
  have k4 : wc.cell? ⟨g5, 4, none⟩ = some (.int .i64 ch.val.1) := HCH.out.blk.cell 4 _ rfl
  have k5 : wc.cell? ⟨g5, 5, none⟩ = some (.int .i64 ch.val.2.1) := HCH.out.blk.cell 5 _ rfl
  have k6 : wc.cell? ⟨g5, 6, none⟩ = some (.string ch.val.2.2) := HCH.out.blk.cell 6 _ rfl
  have k7 : wc.cell? ⟨g5, 7, none⟩ = some (.int .u8 ch.sep) := HCH.out.blk.cell 7 _ rfl
  have k8 : wc.cell? ⟨g5, 8, none⟩ = some (.int .i64 ch.num) := HCH.out.blk.cell 8 _ rfl
  have z0 : wc.cell? ⟨h0 + 1, 0, none⟩ = some (.int .i64 0) := hres.cell 0 _ rfl
  have f0 := hres.frozen 0
  have z1 : wc.cell? ⟨h0 + 1, 1, none⟩ = some (.int .i64 0) := hres.cell 1 _ rfl
  have f1 := hres.frozen 1
  have z2 : wc.cell? ⟨h0 + 1, 2, none⟩ = some (.string ⟨#[]⟩) := hres.cell 2 _ rfl
  have f2 := hres.frozen 2
  have z3 : wc.cell? ⟨h0 + 1, 3, none⟩ = some (.int .i64 0) := hres.cell 3 _ rfl
  have f3 := hres.frozen 3
  have z4 : wc.cell? ⟨h0 + 1, 4, none⟩ = some (.int .i64 0) := hres.cell 4 _ rfl
  have f4 := hres.frozen 4
  have z5 : wc.cell? ⟨h0 + 1, 5, none⟩ = some (.int .i64 0) := hres.cell 5 _ rfl
  have f5 := hres.frozen 5
  have z6 : wc.cell? ⟨h0 + 1, 6, none⟩ = some (.string ⟨#[]⟩) := hres.cell 6 _ rfl
  have f6 := hres.frozen 6
  have z7 : wc.cell? ⟨h0 + 1, 7, none⟩ = some (.int .u8 0) := hres.cell 7 _ rfl
  have f7 := hres.frozen 7
  have z8 : wc.cell? ⟨h0 + 1, 8, none⟩ = some (.int .i64 0) := hres.cell 8 _ rfl
  have f8 := hres.frozen 8
  go_wp2_with fail
  have H9 := (((((((((HCH.out.pk.far (p := ⟨h0 + 1, 0, none⟩) (by have := HG.out; show g < h0 + 1; omega) (.int .i64 ch.kind)).far (p := ⟨h0 + 1, 1, none⟩) (by have := HG.out; show g < h0 + 1; omega) (.int .i64 ch.col)).far (p := ⟨h0 + 1, 2, none⟩) (by have := HG.out; show g < h0 + 1; omega) (.string ch.name)).far (p := ⟨h0 + 1, 3, none⟩) (by have := HG.out; show g < h0 + 1; omega) (.int .i64 ch.typ)).far (p := ⟨h0 + 1, 4, none⟩) (by have := HG.out; show g < h0 + 1; omega) (.int .i64 ch.val.1)).far (p := ⟨h0 + 1, 5, none⟩) (by have := HG.out; show g < h0 + 1; omega) (.int .i64 ch.val.2.1)).far (p := ⟨h0 + 1, 6, none⟩) (by have := HG.out; show g < h0 + 1; omega) (.string ch.val.2.2)).far (p := ⟨h0 + 1, 7, none⟩) (by have := HG.out; show g < h0 + 1; omega) (.int .u8 ch.sep)).far (p := ⟨h0 + 1, 8, none⟩) (by have := HG.out; show g < h0 + 1; omega) (.int .i64 ch.num))
  have F9 := far_fill HCH.out.far (show w.heap.size ≤ h0 + 1 by have := HH0.out; omega) 0 (cvP ch)
  have B9 := Blk.fill [.int .i64 0, .int .i64 0, .string ⟨#[]⟩, .int .i64 0, .int .i64 0, .int .i64 0, .string ⟨#[]⟩, .int .u8 0, .int .i64 0] (cvP ch) hres rfl
  refine bodyPost_ret (results_cell_row rfl _ _ (h0 + 1) _ _ _ _ rfl B9 Tryd.underlying31 rfl (by kernel_rfl)) rfl ?_
  exact ⟨ch, rfl, HCH.out.nm, HCH.out.sp, H9, F9⟩
end Go.Proofs.YtklohbglkbhjhaaDoor