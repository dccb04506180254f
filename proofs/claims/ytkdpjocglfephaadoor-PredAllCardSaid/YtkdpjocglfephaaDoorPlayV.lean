
import Derived.Test.YtkdpjocglfephaaDoorBase
import Derived.BigQuiet
import Derived.WalkKit
import Derived.Laws.OwnMore
import Derived.Laws.BytesArg
import Derived.Laws.Rows
import Derived.Deep.AppendLies
import Derived.Deep.Draws
import Derived.Test.YtkdpjocglfephaaDoorChecked
import Derived.Deep.OwnRows
import Derived.Lib.Hide
import Derived.Deep.Quiet
import Derived.Laws.AppendOwnNone
import Derived.Lib.Strings
import Derived.Outline
import Derived.WalkLawsBesides
import Derived.WalkSpells
import Derived.PlainAid
import Derived.Deep.QuietTactic
import Derived.RegionTactic
import Derived.BigRegion
import Derived.Handy
import Derived.Laws.BitsAllLaws
import Derived.Deep.RegionWith
import Derived.Lib.AppendStr
import Derived.Deep.RegionLaw
import Derived.Maps.AppendAt
import Derived.OpenShut
import Derived.WideShapes
import Derived.ChangeArms
import Derived.Deep.Slices
import Derived.Sort.Grow
import Derived.LaidEql
import Derived.Stop.Asserts
import Derived.RowKitTokens
import Derived.Laws.BitsLemmas
import Derived.Laws.Bits64
import Derived.WalkSmall
import Derived.Stop.IfaceNil
import Derived.Lib.Bytealg
import Derived.Deep.SlicePairs



/- Walks of package rabbetplay: Made, Num, Over. Worlds in which one block has turned. -/

namespace Go.Proofs.YtkdpjocglfephaaDoor
open Go.RowKit
set_option linter.unusedVariables false

/-- Of w only block g has turned. -/
def Far (g : Nat) (w w' : World) : Prop := g < w.heap.size ∧ Below g w w' ∧ ∀ k, k < w.heap.size → k ≠ g → w'.heap[k]? = w.heap[k]?
section
variable {g : Nat} {w w' w'' : World}
theorem Far.refl (h : g < w.heap.size) : Far g w w := ⟨h, Below.refl _ _, fun _ _ _ => rfl⟩
theorem Far.size (h : Far g w w') : w.heap.size ≤ w'.heap.size := Below.size h.2.1
theorem Far.lt (h : Far g w w') : g < w'.heap.size := Nat.lt_of_lt_of_le h.1 h.size
theorem Far.trans (h : Far g w w') (k : Far g w' w'') : Far g w w'' :=
  ⟨h.1, Below.trans h.2.1 k.2.1, fun j hj hne => (k.2.2 j (Nat.lt_of_lt_of_le hj h.size) hne).trans (h.2.2 j hj hne)⟩
theorem Far.of (hg : g < w.heap.size) (l : Later w w') : Far g w w' :=
  ⟨hg, Below.mono l.below (Nat.le_of_lt hg), fun j hj _ => Below.block l j hj⟩
theorem Far.later (h : Far g w w') (l : Later w' w'') : Far g w w'' := h.trans (Far.of h.lt l)
theorem Far.set_own (hg : g < w.heap.size) (k : Nat) (v : Value) : Far g w (w.setCell ⟨g, k, none⟩ v) :=
  ⟨hg, Below.setCell (p := ⟨g, k, none⟩) (Below.refl _ _) (Nat.le_refl g) _, fun j _ hne => Below.heap_setCell w ⟨g, k, none⟩ v j hne⟩
theorem Far.set_new (h : Far g w w') {p : Addr} (hp : w.heap.size ≤ p.block) (v : Value) : Far g w (w'.setCell p v) :=
  ⟨h.1, Below.setCell h.2.1 (Nat.le_trans (Nat.le_of_lt h.1) hp) _, fun j hj hne => (Below.heap_setCell w' p v j (by omega)).trans (h.2.2 j hj hne)⟩
theorem Far.blk (h : Far g w w') {k : Nat} {cs : Array Value} {t : TypeId} (b : Blk w k cs t) (hne : k ≠ g) : Blk w' k cs t := (h.2.2 k b.lt hne).trans b
theorem Far.rd (h : Far g w w') {A : Option Addr} {xs : List Value} (r : Rd w g A xs) : Rd w' g A xs := Rd.below r h.2.1
theorem Far.own (h : Far g w w') {base : Nat} {e : TypeId} {k : Nat} {v : Value} {n : Nat} {xs : List Value} (hb : g < base) (o : w.ownsRow base e k v n xs) : w'.ownsRow base e k v n xs := by
  obtain ⟨h1, h2⟩ := o
  refine ⟨h1, ?_⟩
  rcases h2 with h2 | ⟨j, cap, cur, ha, hj, hg, hrest⟩
  · exact .inl h2
  · refine .inr ⟨j, cap, cur, ha, hj, (h.2.2 j ?_ (by omega)).trans hg, hrest⟩
    rcases Nat.lt_or_ge j w.heap.size with h' | h'
    · exact h'
    · rw [Array.getElem?_eq_none h'] at hg; cases hg
theorem Far.out (h : Far g w' w'') (hg : g = w.heap.size) (l : Later w w') : Later w w'' := by
  subst hg; exact Later.of (Below.trans l.below h.2.1)
end
/-- The picks: where they lie, how many of them are behind us. -/
abbrev Pk (w : World) (g : Nat) (A : Option Addr) (n c k : Nat) : Prop := Blk w g #[.slice A n c, .int .i64 (k : Int)] 76

theorem made_any (A : Option Addr) (n c : Nat) (w : World) : Calls Tryd.prog 6 #[.slice A n c] w fun e w' => e = .returned (.pointer (some ⟨w.heap.size, 0, none⟩)) ∧ w.alloc (.cells #[.slice A n c, .int .i64 0] 76) = w' := by
  go_enter Tryd.func6, Tryd.ntmps6
  go_wp2_with fail
  go_ret
  exact ⟨rfl, rfl⟩

theorem over_any (g : Nat) (A : Option Addr) (n c k : Nat) (w : World) (h : Pk w g A n c k) (hn : n ≤ 1000) (hk : k ≤ n) :
    Calls Tryd.prog 45 #[.pointer (some ⟨g, 0, none⟩)] w fun e w' => e = .returned (.bool (decide (n ≤ k))) ∧ Later w w' := by
  have c0 := h.cell 0 _ rfl
  have c1 := h.cell 1 _ rfl
  have hd : decide ((n : Int) ≤ (k : Int)) = decide (n ≤ k) := by simp
  clear h
  go_enter Tryd.func45, Tryd.ntmps45
  go_wp2_with fail
  go_quiet (fail)
  go_wp2_with fail
  go_ret
  exact ⟨rfl, (Later.refl _).drewN _⟩

set_option maxRecDepth 100000 in
theorem num9_any (g : Nat) (A : Option Addr) (n c k : Nat) (bs : List Nat) (w : World) (h : Pk w g A n c k) (hn : n ≤ 1000) (hk : k ≤ n) (hb : bs.length = n) (hr : Rd w g A (ints .u8 bs)) (h256 : ∀ x ∈ bs, x < 256) :
    Calls Tryd.prog 22 #[.pointer (some ⟨g, 0, none⟩), .int .i64 9] w fun e w' => ∃ r k' : Nat, r < 9 ∧ k' ≤ n ∧ e = .returned (.int .i64 r) ∧ Pk w' g A n c k' ∧ Far g w w' := by
  have c0 := h.cell 0 _ rfl
  have c1 := h.cell 1 _ rfl
  have f1 := h.frozen 1
  by_cases hlt : k < n
  · have h2 := h.set_ 1 (.int .i64 ((k + 1 : Nat) : Int))
    have HH := Lib.hid h
    have HLT := Lib.hid h.lt
    obtain ⟨bb, off, rfl, hbb, hc⟩ := hr.at_ (k := k) (by rw [ints_length]; omega)
    simp only [ints, List.getElem_map] at hc
    have hx := h256 _ (List.getElem_mem (by omega : k < bs.length))
    generalize bs[k] = x at hc hx
    have hne : bb ≠ g := by omega
    have hne2 : g ≠ bb := by omega
    have hm : (x : Int) % 9 = ((x % 9 : Nat) : Int) := by omega
    clear h hr h256 hb
    go_enter Tryd.func22, Tryd.ntmps22
    go_wp2_with fail
    go_quiet (fail)
    go_wp2_with fail
    obtain ⟨w2, hw2⟩ : ∃ w2, w2 = (w.drewN nq).setCell ⟨g, 1, none⟩ (.int .i64 ((k : Int) + 1)) := ⟨_, rfl⟩
    have B2 : Blk w2 g #[.slice (some ⟨bb, off, none⟩) n c, .int .i64 ((k : Int) + 1)] 76 := by rw [hw2]; exact (Blk.set_ (w := w.drewN nq) HH.out 1 _)
    have F2 : Far g w w2 := by rw [hw2]; exact (Far.of (w := w) (w' := w.drewN nq) HLT.out ((Later.refl w).drewN nq)).trans (Far.set_own (w := w.drewN nq) HLT.out 1 _)
    have hc2 : w2.cell? ⟨bb, off + k, none⟩ = some (.int .u8 (x : Int)) := (Below.cell F2.2.1 hbb).trans hc
    rw [← hw2]
    have e0 : w2.cell? ⟨g, 0, none⟩ = some (.slice (some ⟨bb, off, none⟩) n c) := B2.cell 0 _ rfl
    have e1 : w2.cell? ⟨g, 1, none⟩ = some (.int .i64 ((k : Int) + 1)) := B2.cell 1 _ rfl
    have hkk : (k : Int) + 1 - 1 = (k : Int) := by omega
    clear hw2 c0 c1 hc f1
    go_quiet (fail)
    go_wp2_with fail
    go_ret
    refine ⟨x % 9, k + 1, by omega, hlt, by rw [← hm]; rfl, ?_, F2.later ((Later.refl _).drewN _)⟩
    unfold Pk
    rw [show ((k + 1 : Nat) : Int) = (k : Int) + 1 by omega]
    exact B2
  · have F := Lib.hid (Far.refl h.lt)
    have HB := Lib.hid h
    clear h hr h256 hb
    go_enter Tryd.func22, Tryd.ntmps22
    go_wp2_with fail
    go_quiet (fail)
    go_wp2_with fail
    go_ret
    exact ⟨0, k, by omega, hk, rfl, HB.out, F.out.later ((Later.refl _).drewN _)⟩
end Go.Proofs.YtkdpjocglfephaaDoor

/- Walks of package rabbetplay: Value. -/

namespace Go.Proofs.YtkdpjocglfephaaDoor
open Go.RowKit
set_option linter.unusedVariables false

/-- Of which type the values are that are made when t is asked. -/
def tyOf (t : Int) : Int := if 1 ≤ t ∧ t ≤ 3 then t else 4
/-- What Value gives: nothing, or a value of the type. -/
def ValPost (t : Int) (g : Nat) (A : Option Addr) (n c : Nat) (w : World) (e : Ending) (w' : World) : Prop :=
  ∃ (vt i : Int) (s : ByteArray) (k' : Nat), k' ≤ n ∧ e = .returned (vagg vt i s) ∧ (vt = 0 ∨ (vt = tyOf t ∧ MayV vt i s.size ∧ In64 i)) ∧ Pk w' g A n c k' ∧ Far g w w'
theorem ValPost.of {t : Int} {g : Nat} {A : Option Addr} {n c : Nat} {w w' : World} {k' : Nat} (hk : k' ≤ n) (vt i : Int) (s : ByteArray) (h : vt = 0 ∨ (vt = tyOf t ∧ MayV vt i s.size ∧ In64 i)) (p : Pk w' g A n c k') (f : Far g w w') : ValPost t g A n c w (.returned (vagg vt i s)) w' := ⟨vt, i, s, k', hk, rfl, h, p, f⟩

/-- .. and nothing is nothing whole. -/
def ValPostN (t : Int) (g : Nat) (A : Option Addr) (n c : Nat) (w : World) (e : Ending) (w' : World) : Prop :=
  ∃ (vt i : Int) (s : ByteArray) (k' : Nat), k' ≤ n ∧ e = .returned (vagg vt i s) ∧ ((vt = 0 ∧ i = 0 ∧ s = ⟨#[]⟩) ∨ (vt = tyOf t ∧ MayV vt i s.size ∧ In64 i)) ∧ (Pk w' g A n c k' ∧ Far g w w') ∧ s.size ≠ 11
theorem ValPostN.of {t : Int} {g : Nat} {A : Option Addr} {n c : Nat} {w w' : World} {k' : Nat} (hk : k' ≤ n) (vt i : Int) (s : ByteArray) (h : (vt = 0 ∧ i = 0 ∧ s = ⟨#[]⟩) ∨ (vt = tyOf t ∧ MayV vt i s.size ∧ In64 i)) (p : Pk w' g A n c k') (f : Far g w w') (h11 : s.size ≠ 11 := by decide) : ValPostN t g A n c w (.returned (vagg vt i s)) w' := ⟨vt, i, s, k', hk, rfl, h, ⟨p, f⟩, h11⟩
theorem ValPostN.post {t : Int} {g : Nat} {A : Option Addr} {n c : Nat} {w w' : World} {e : Ending} (h : ValPostN t g A n c w e w') : ValPost t g A n c w e w' := by
  obtain ⟨vt, i, s, k', hk, he, h, p, _⟩ := h
  exact ⟨vt, i, s, k', hk, he, h.elim (fun h => .inl h.1) .inr, p⟩

set_option maxRecDepth 100000 in
set_option maxHeartbeats 4000000 in
theorem value_small (g : Nat) (A : Option Addr) (n c k : Nat) (bs : List Nat) (w : World) (h : Pk w g A n c k) (hn : n ≤ 1000) (hk : k ≤ n) (hb : bs.length = n) (hr : Rd w g A (ints .u8 bs)) (h256 : ∀ x ∈ bs, x < 256) :
    Calls Tryd.prog 25 #[.pointer (some ⟨g, 0, none⟩), .int .i64 1] w (ValPostN 1 g A n c w) := by
  obtain ⟨w1, hw1⟩ : ∃ w1, w1 = w.alloc (.cells #[.int .i64 0, .int .i64 0, .string ⟨#[]⟩] 26) := ⟨_, rfl⟩
  have L1 : Later w w1 := hw1 ▸ Later.new _ _
  have R1 : Blk w1 w.heap.size #[.int .i64 0, .int .i64 0, .string ⟨#[]⟩] 26 := hw1 ▸ Blk.new w _ _ _ rfl
  have glt := h.lt
  have HT := Lib.hid (num9_any g A n c k bs w1 (h.later L1) hn hk hb (Rd.below hr (Far.of glt L1).2.1) h256)
  have HF := Lib.hid (Far.of glt L1)
  have HW := Lib.hid hw1
  obtain ⟨q, hq⟩ : ∃ q, q = w.heap.size := ⟨_, rfl⟩
  have HQ := Lib.hid hq
  rw [← hq] at R1
  have hne : q ≠ g := by omega
  clear hw1 L1 h hr h256 hb hq glt
  go_enter Tryd.func25, Tryd.ntmps25
  go_wp2_with fail
  rw [← HW.out]
  refine HT.out.mono ?_
  rintro e w2 ⟨r, k', hr9, hk', rfl, pk, f2⟩
  have PK := pk
  have R2 := f2.blk R1 hne
  have HF2 := Lib.hid (HF.out.trans f2)
  rw [← HQ.out]
  have r0 := R2.cell 0 _ rfl
  have r1 := R2.cell 1 _ rfl
  have r2 := R2.cell 2 _ rfl
  have f0 := R2.frozen 0
  have f1 := R2.frozen 1
  have f3 := R2.frozen 2
  have HPK := Lib.hid PK
  have HR2 := Lib.hid R2
  have zq := R2.lt
  clear HT HF R1 HW f2 pk PK R2 hk
  obtain rfl | rfl | rfl | rfl | rfl | rfl | rfl | rfl | rfl : r = 0 ∨ r = 1 ∨ r = 2 ∨ r = 3 ∨ r = 4 ∨ r = 5 ∨ r = 6 ∨ r = 7 ∨ r = 8 := by omega
  · by_cases hov : n ≤ k'
    · rw [show ((0 : Nat) : Int) = 0 from rfl]
      go_wp2_with fail
      refine (over_any g A n c k' _ HPK.out hn hk').mono ?_
      rintro e w3 ⟨rfl, l3⟩
      rw [show decide (n ≤ k') = true by simp [hov]]
      have R3 := HR2.out.later l3
      have P3 := HPK.out.later l3
      have HF2 := Lib.hid (HF2.out.later l3)
      clear HR2 HPK r0 r1 r2 f0 f1 f3 zq
      have HR2 := Lib.hid R3
      have HPK := Lib.hid P3
      have y0 := R3.cell 0 _ rfl
      have y1 := R3.cell 1 _ rfl
      have y2 := R3.cell 2 _ rfl
      have g0 := R3.frozen 0
      have g1 := R3.frozen 1
      have g2 := R3.frozen 2
      have zq3 := R3.lt
      clear R3 P3 l3
      go_wp2_with fail
      have R4 := three_blk HR2.out rfl (.int .i64 1) (.int .i64 0) (.string ⟨#[]⟩)
      have F4 := (HF2.out.set_new (p := ⟨q, 0, none⟩) (Nat.le_of_eq HQ.out.symm) (.int .i64 1)).set_new (p := ⟨q, 1, none⟩) (Nat.le_of_eq HQ.out.symm) (.int .i64 0) |>.set_new (p := ⟨q, 2, none⟩) (Nat.le_of_eq HQ.out.symm) (.string ⟨#[]⟩)
      have P4 := ((HPK.out.far (p := ⟨q, 0, none⟩) (Ne.symm hne) (.int .i64 1)).far (p := ⟨q, 1, none⟩) (Ne.symm hne) (.int .i64 0)).far (p := ⟨q, 2, none⟩) (Ne.symm hne) (.string ⟨#[]⟩)
      obtain ⟨w4, hw4⟩ : ∃ w4, w4 = (((w3.setCell ⟨q, 0, none⟩ (.int .i64 1)).setCell ⟨q, 1, none⟩ (.int .i64 0)).setCell ⟨q, 2, none⟩ (.string ⟨#[]⟩)) := ⟨_, rfl⟩
      rw [← hw4] at R4 F4 P4 ⊢
      have l5 := Later.new w4 (.cells #[.int .i64 0, .int .i64 1, .int .i64 2, .int .i64 3, .int .i64 (-1), .int .i64 100, .int .i64 (-32768), .int .i64 32767, .int .i64 5] 2)
      have R5 := R4.later l5
      have F5 := F4.later l5
      have P5 := P4.later l5
      obtain ⟨w5, hw5⟩ : ∃ w5, w5 = w4.alloc (.cells #[.int .i64 0, .int .i64 1, .int .i64 2, .int .i64 3, .int .i64 (-1), .int .i64 100, .int .i64 (-32768), .int .i64 32767, .int .i64 5] 2) := ⟨_, rfl⟩
      rw [← hw5] at R5 F5 P5 ⊢
      have x0 := R5.cell 0 _ rfl
      have x1 := R5.cell 1 _ rfl
      have x2 := R5.cell 2 _ rfl
      exact bodyPost_ret (v := vagg 1 0 ⟨#[]⟩) (by simp [results, Tryd.results25, go_sem, x0, x1, x2]) rfl (ValPostN.of hk' _ _ _ (.inr ⟨by unfold tyOf; decide, by unfold MayV; decide, by unfold In64; decide⟩) P5 F5)
    · rw [show ((0 : Nat) : Int) = 0 from rfl]
      go_wp2_with fail
      refine (over_any g A n c k' _ HPK.out hn hk').mono ?_
      rintro e w3 ⟨rfl, l3⟩
      rw [show decide (n ≤ k') = false by simp [hov]]
      have R3 := HR2.out.later l3
      have P3 := HPK.out.later l3
      have HF2 := Lib.hid (HF2.out.later l3)
      clear HR2 HPK r0 r1 r2 f0 f1 f3 zq
      have HR2 := Lib.hid R3
      have HPK := Lib.hid P3
      have y0 := R3.cell 0 _ rfl
      have y1 := R3.cell 1 _ rfl
      have y2 := R3.cell 2 _ rfl
      have g0 := R3.frozen 0
      have g1 := R3.frozen 1
      have g2 := R3.frozen 2
      have zq3 := R3.lt
      clear R3 P3 l3
      go_wp2_with fail
      have R4 := three_blk HR2.out rfl (.int .i64 0) (.int .i64 0) (.string ⟨#[]⟩)
      have F4 := (HF2.out.set_new (p := ⟨q, 0, none⟩) (Nat.le_of_eq HQ.out.symm) (.int .i64 0)).set_new (p := ⟨q, 1, none⟩) (Nat.le_of_eq HQ.out.symm) (.int .i64 0) |>.set_new (p := ⟨q, 2, none⟩) (Nat.le_of_eq HQ.out.symm) (.string ⟨#[]⟩)
      have P4 := ((HPK.out.far (p := ⟨q, 0, none⟩) (Ne.symm hne) (.int .i64 0)).far (p := ⟨q, 1, none⟩) (Ne.symm hne) (.int .i64 0)).far (p := ⟨q, 2, none⟩) (Ne.symm hne) (.string ⟨#[]⟩)
      obtain ⟨w4, hw4⟩ : ∃ w4, w4 = (((w3.setCell ⟨q, 0, none⟩ (.int .i64 0)).setCell ⟨q, 1, none⟩ (.int .i64 0)).setCell ⟨q, 2, none⟩ (.string ⟨#[]⟩)) := ⟨_, rfl⟩
      rw [← hw4] at R4 F4 P4 ⊢
      have R5 := R4
      have F5 := F4
      have P5 := P4
      have x0 := R5.cell 0 _ rfl
      have x1 := R5.cell 1 _ rfl
      have x2 := R5.cell 2 _ rfl
      exact bodyPost_ret (v := vagg 0 0 ⟨#[]⟩) (by simp [results, Tryd.results25, go_sem, x0, x1, x2]) rfl (ValPostN.of hk' _ _ _ (.inl ⟨rfl, rfl, rfl⟩) P5 F5)
  · go_wp2_with fail
    have R4 := three_blk HR2.out rfl (.int .i64 1) (.int .i64 1) (.string ⟨#[]⟩)
    have F4 := (HF2.out.set_new (p := ⟨q, 0, none⟩) (Nat.le_of_eq HQ.out.symm) (.int .i64 1)).set_new (p := ⟨q, 1, none⟩) (Nat.le_of_eq HQ.out.symm) (.int .i64 1) |>.set_new (p := ⟨q, 2, none⟩) (Nat.le_of_eq HQ.out.symm) (.string ⟨#[]⟩)
    have P4 := ((HPK.out.far (p := ⟨q, 0, none⟩) (Ne.symm hne) (.int .i64 1)).far (p := ⟨q, 1, none⟩) (Ne.symm hne) (.int .i64 1)).far (p := ⟨q, 2, none⟩) (Ne.symm hne) (.string ⟨#[]⟩)
    obtain ⟨w4, hw4⟩ : ∃ w4, w4 = (((w2.setCell ⟨q, 0, none⟩ (.int .i64 1)).setCell ⟨q, 1, none⟩ (.int .i64 1)).setCell ⟨q, 2, none⟩ (.string ⟨#[]⟩)) := ⟨_, rfl⟩
    rw [← hw4] at R4 F4 P4 ⊢
    have l5 := Later.new w4 (.cells #[.int .i64 0, .int .i64 1, .int .i64 2, .int .i64 3, .int .i64 (-1), .int .i64 100, .int .i64 (-32768), .int .i64 32767, .int .i64 5] 2)
    have R5 := R4.later l5
    have F5 := F4.later l5
    have P5 := P4.later l5
    obtain ⟨w5, hw5⟩ : ∃ w5, w5 = w4.alloc (.cells #[.int .i64 0, .int .i64 1, .int .i64 2, .int .i64 3, .int .i64 (-1), .int .i64 100, .int .i64 (-32768), .int .i64 32767, .int .i64 5] 2) := ⟨_, rfl⟩
    rw [← hw5] at R5 F5 P5 ⊢
    have x0 := R5.cell 0 _ rfl
    have x1 := R5.cell 1 _ rfl
    have x2 := R5.cell 2 _ rfl
    exact bodyPost_ret (v := vagg 1 1 ⟨#[]⟩) (by simp [results, Tryd.results25, go_sem, x0, x1, x2]) rfl (ValPostN.of hk' _ _ _ (.inr ⟨by unfold tyOf; decide, by unfold MayV; decide, by unfold In64; decide⟩) P5 F5)
  · go_wp2_with fail
    have R4 := three_blk HR2.out rfl (.int .i64 1) (.int .i64 2) (.string ⟨#[]⟩)
    have F4 := (HF2.out.set_new (p := ⟨q, 0, none⟩) (Nat.le_of_eq HQ.out.symm) (.int .i64 1)).set_new (p := ⟨q, 1, none⟩) (Nat.le_of_eq HQ.out.symm) (.int .i64 2) |>.set_new (p := ⟨q, 2, none⟩) (Nat.le_of_eq HQ.out.symm) (.string ⟨#[]⟩)
    have P4 := ((HPK.out.far (p := ⟨q, 0, none⟩) (Ne.symm hne) (.int .i64 1)).far (p := ⟨q, 1, none⟩) (Ne.symm hne) (.int .i64 2)).far (p := ⟨q, 2, none⟩) (Ne.symm hne) (.string ⟨#[]⟩)
    obtain ⟨w4, hw4⟩ : ∃ w4, w4 = (((w2.setCell ⟨q, 0, none⟩ (.int .i64 1)).setCell ⟨q, 1, none⟩ (.int .i64 2)).setCell ⟨q, 2, none⟩ (.string ⟨#[]⟩)) := ⟨_, rfl⟩
    rw [← hw4] at R4 F4 P4 ⊢
    have l5 := Later.new w4 (.cells #[.int .i64 0, .int .i64 1, .int .i64 2, .int .i64 3, .int .i64 (-1), .int .i64 100, .int .i64 (-32768), .int .i64 32767, .int .i64 5] 2)
    have R5 := R4.later l5
    have F5 := F4.later l5
    have P5 := P4.later l5
    obtain ⟨w5, hw5⟩ : ∃ w5, w5 = w4.alloc (.cells #[.int .i64 0, .int .i64 1, .int .i64 2, .int .i64 3, .int .i64 (-1), .int .i64 100, .int .i64 (-32768), .int .i64 32767, .int .i64 5] 2) := ⟨_, rfl⟩
    rw [← hw5] at R5 F5 P5 ⊢
    have x0 := R5.cell 0 _ rfl
    have x1 := R5.cell 1 _ rfl
    have x2 := R5.cell 2 _ rfl
    exact bodyPost_ret (v := vagg 1 2 ⟨#[]⟩) (by simp [results, Tryd.results25, go_sem, x0, x1, x2]) rfl (ValPostN.of hk' _ _ _ (.inr ⟨by unfold tyOf; decide, by unfold MayV; decide, by unfold In64; decide⟩) P5 F5)
  · go_wp2_with fail
    have R4 := three_blk HR2.out rfl (.int .i64 1) (.int .i64 3) (.string ⟨#[]⟩)
    have F4 := (HF2.out.set_new (p := ⟨q, 0, none⟩) (Nat.le_of_eq HQ.out.symm) (.int .i64 1)).set_new (p := ⟨q, 1, none⟩) (Nat.le_of_eq HQ.out.symm) (.int .i64 3) |>.set_new (p := ⟨q, 2, none⟩) (Nat.le_of_eq HQ.out.symm) (.string ⟨#[]⟩)
    have P4 := ((HPK.out.far (p := ⟨q, 0, none⟩) (Ne.symm hne) (.int .i64 1)).far (p := ⟨q, 1, none⟩) (Ne.symm hne) (.int .i64 3)).far (p := ⟨q, 2, none⟩) (Ne.symm hne) (.string ⟨#[]⟩)
    obtain ⟨w4, hw4⟩ : ∃ w4, w4 = (((w2.setCell ⟨q, 0, none⟩ (.int .i64 1)).setCell ⟨q, 1, none⟩ (.int .i64 3)).setCell ⟨q, 2, none⟩ (.string ⟨#[]⟩)) := ⟨_, rfl⟩
    rw [← hw4] at R4 F4 P4 ⊢
    have l5 := Later.new w4 (.cells #[.int .i64 0, .int .i64 1, .int .i64 2, .int .i64 3, .int .i64 (-1), .int .i64 100, .int .i64 (-32768), .int .i64 32767, .int .i64 5] 2)
    have R5 := R4.later l5
    have F5 := F4.later l5
    have P5 := P4.later l5
    obtain ⟨w5, hw5⟩ : ∃ w5, w5 = w4.alloc (.cells #[.int .i64 0, .int .i64 1, .int .i64 2, .int .i64 3, .int .i64 (-1), .int .i64 100, .int .i64 (-32768), .int .i64 32767, .int .i64 5] 2) := ⟨_, rfl⟩
    rw [← hw5] at R5 F5 P5 ⊢
    have x0 := R5.cell 0 _ rfl
    have x1 := R5.cell 1 _ rfl
    have x2 := R5.cell 2 _ rfl
    exact bodyPost_ret (v := vagg 1 3 ⟨#[]⟩) (by simp [results, Tryd.results25, go_sem, x0, x1, x2]) rfl (ValPostN.of hk' _ _ _ (.inr ⟨by unfold tyOf; decide, by unfold MayV; decide, by unfold In64; decide⟩) P5 F5)
  · go_wp2_with fail
    have R4 := three_blk HR2.out rfl (.int .i64 1) (.int .i64 (-1)) (.string ⟨#[]⟩)
    have F4 := (HF2.out.set_new (p := ⟨q, 0, none⟩) (Nat.le_of_eq HQ.out.symm) (.int .i64 1)).set_new (p := ⟨q, 1, none⟩) (Nat.le_of_eq HQ.out.symm) (.int .i64 (-1)) |>.set_new (p := ⟨q, 2, none⟩) (Nat.le_of_eq HQ.out.symm) (.string ⟨#[]⟩)
    have P4 := ((HPK.out.far (p := ⟨q, 0, none⟩) (Ne.symm hne) (.int .i64 1)).far (p := ⟨q, 1, none⟩) (Ne.symm hne) (.int .i64 (-1))).far (p := ⟨q, 2, none⟩) (Ne.symm hne) (.string ⟨#[]⟩)
    obtain ⟨w4, hw4⟩ : ∃ w4, w4 = (((w2.setCell ⟨q, 0, none⟩ (.int .i64 1)).setCell ⟨q, 1, none⟩ (.int .i64 (-1))).setCell ⟨q, 2, none⟩ (.string ⟨#[]⟩)) := ⟨_, rfl⟩
    rw [← hw4] at R4 F4 P4 ⊢
    have l5 := Later.new w4 (.cells #[.int .i64 0, .int .i64 1, .int .i64 2, .int .i64 3, .int .i64 (-1), .int .i64 100, .int .i64 (-32768), .int .i64 32767, .int .i64 5] 2)
    have R5 := R4.later l5
    have F5 := F4.later l5
    have P5 := P4.later l5
    obtain ⟨w5, hw5⟩ : ∃ w5, w5 = w4.alloc (.cells #[.int .i64 0, .int .i64 1, .int .i64 2, .int .i64 3, .int .i64 (-1), .int .i64 100, .int .i64 (-32768), .int .i64 32767, .int .i64 5] 2) := ⟨_, rfl⟩
    rw [← hw5] at R5 F5 P5 ⊢
    have x0 := R5.cell 0 _ rfl
    have x1 := R5.cell 1 _ rfl
    have x2 := R5.cell 2 _ rfl
    exact bodyPost_ret (v := vagg 1 (-1) ⟨#[]⟩) (by simp [results, Tryd.results25, go_sem, x0, x1, x2]) rfl (ValPostN.of hk' _ _ _ (.inr ⟨by unfold tyOf; decide, by unfold MayV; decide, by unfold In64; decide⟩) P5 F5)
  · go_wp2_with fail
    have R4 := three_blk HR2.out rfl (.int .i64 1) (.int .i64 100) (.string ⟨#[]⟩)
    have F4 := (HF2.out.set_new (p := ⟨q, 0, none⟩) (Nat.le_of_eq HQ.out.symm) (.int .i64 1)).set_new (p := ⟨q, 1, none⟩) (Nat.le_of_eq HQ.out.symm) (.int .i64 100) |>.set_new (p := ⟨q, 2, none⟩) (Nat.le_of_eq HQ.out.symm) (.string ⟨#[]⟩)
    have P4 := ((HPK.out.far (p := ⟨q, 0, none⟩) (Ne.symm hne) (.int .i64 1)).far (p := ⟨q, 1, none⟩) (Ne.symm hne) (.int .i64 100)).far (p := ⟨q, 2, none⟩) (Ne.symm hne) (.string ⟨#[]⟩)
    obtain ⟨w4, hw4⟩ : ∃ w4, w4 = (((w2.setCell ⟨q, 0, none⟩ (.int .i64 1)).setCell ⟨q, 1, none⟩ (.int .i64 100)).setCell ⟨q, 2, none⟩ (.string ⟨#[]⟩)) := ⟨_, rfl⟩
    rw [← hw4] at R4 F4 P4 ⊢
    have l5 := Later.new w4 (.cells #[.int .i64 0, .int .i64 1, .int .i64 2, .int .i64 3, .int .i64 (-1), .int .i64 100, .int .i64 (-32768), .int .i64 32767, .int .i64 5] 2)
    have R5 := R4.later l5
    have F5 := F4.later l5
    have P5 := P4.later l5
    obtain ⟨w5, hw5⟩ : ∃ w5, w5 = w4.alloc (.cells #[.int .i64 0, .int .i64 1, .int .i64 2, .int .i64 3, .int .i64 (-1), .int .i64 100, .int .i64 (-32768), .int .i64 32767, .int .i64 5] 2) := ⟨_, rfl⟩
    rw [← hw5] at R5 F5 P5 ⊢
    have x0 := R5.cell 0 _ rfl
    have x1 := R5.cell 1 _ rfl
    have x2 := R5.cell 2 _ rfl
    exact bodyPost_ret (v := vagg 1 100 ⟨#[]⟩) (by simp [results, Tryd.results25, go_sem, x0, x1, x2]) rfl (ValPostN.of hk' _ _ _ (.inr ⟨by unfold tyOf; decide, by unfold MayV; decide, by unfold In64; decide⟩) P5 F5)
  · go_wp2_with fail
    have R4 := three_blk HR2.out rfl (.int .i64 1) (.int .i64 (-32768)) (.string ⟨#[]⟩)
    have F4 := (HF2.out.set_new (p := ⟨q, 0, none⟩) (Nat.le_of_eq HQ.out.symm) (.int .i64 1)).set_new (p := ⟨q, 1, none⟩) (Nat.le_of_eq HQ.out.symm) (.int .i64 (-32768)) |>.set_new (p := ⟨q, 2, none⟩) (Nat.le_of_eq HQ.out.symm) (.string ⟨#[]⟩)
    have P4 := ((HPK.out.far (p := ⟨q, 0, none⟩) (Ne.symm hne) (.int .i64 1)).far (p := ⟨q, 1, none⟩) (Ne.symm hne) (.int .i64 (-32768))).far (p := ⟨q, 2, none⟩) (Ne.symm hne) (.string ⟨#[]⟩)
    obtain ⟨w4, hw4⟩ : ∃ w4, w4 = (((w2.setCell ⟨q, 0, none⟩ (.int .i64 1)).setCell ⟨q, 1, none⟩ (.int .i64 (-32768))).setCell ⟨q, 2, none⟩ (.string ⟨#[]⟩)) := ⟨_, rfl⟩
    rw [← hw4] at R4 F4 P4 ⊢
    have l5 := Later.new w4 (.cells #[.int .i64 0, .int .i64 1, .int .i64 2, .int .i64 3, .int .i64 (-1), .int .i64 100, .int .i64 (-32768), .int .i64 32767, .int .i64 5] 2)
    have R5 := R4.later l5
    have F5 := F4.later l5
    have P5 := P4.later l5
    obtain ⟨w5, hw5⟩ : ∃ w5, w5 = w4.alloc (.cells #[.int .i64 0, .int .i64 1, .int .i64 2, .int .i64 3, .int .i64 (-1), .int .i64 100, .int .i64 (-32768), .int .i64 32767, .int .i64 5] 2) := ⟨_, rfl⟩
    rw [← hw5] at R5 F5 P5 ⊢
    have x0 := R5.cell 0 _ rfl
    have x1 := R5.cell 1 _ rfl
    have x2 := R5.cell 2 _ rfl
    exact bodyPost_ret (v := vagg 1 (-32768) ⟨#[]⟩) (by simp [results, Tryd.results25, go_sem, x0, x1, x2]) rfl (ValPostN.of hk' _ _ _ (.inr ⟨by unfold tyOf; decide, by unfold MayV; decide, by unfold In64; decide⟩) P5 F5)
  · go_wp2_with fail
    have R4 := three_blk HR2.out rfl (.int .i64 1) (.int .i64 32767) (.string ⟨#[]⟩)
    have F4 := (HF2.out.set_new (p := ⟨q, 0, none⟩) (Nat.le_of_eq HQ.out.symm) (.int .i64 1)).set_new (p := ⟨q, 1, none⟩) (Nat.le_of_eq HQ.out.symm) (.int .i64 32767) |>.set_new (p := ⟨q, 2, none⟩) (Nat.le_of_eq HQ.out.symm) (.string ⟨#[]⟩)
    have P4 := ((HPK.out.far (p := ⟨q, 0, none⟩) (Ne.symm hne) (.int .i64 1)).far (p := ⟨q, 1, none⟩) (Ne.symm hne) (.int .i64 32767)).far (p := ⟨q, 2, none⟩) (Ne.symm hne) (.string ⟨#[]⟩)
    obtain ⟨w4, hw4⟩ : ∃ w4, w4 = (((w2.setCell ⟨q, 0, none⟩ (.int .i64 1)).setCell ⟨q, 1, none⟩ (.int .i64 32767)).setCell ⟨q, 2, none⟩ (.string ⟨#[]⟩)) := ⟨_, rfl⟩
    rw [← hw4] at R4 F4 P4 ⊢
    have l5 := Later.new w4 (.cells #[.int .i64 0, .int .i64 1, .int .i64 2, .int .i64 3, .int .i64 (-1), .int .i64 100, .int .i64 (-32768), .int .i64 32767, .int .i64 5] 2)
    have R5 := R4.later l5
    have F5 := F4.later l5
    have P5 := P4.later l5
    obtain ⟨w5, hw5⟩ : ∃ w5, w5 = w4.alloc (.cells #[.int .i64 0, .int .i64 1, .int .i64 2, .int .i64 3, .int .i64 (-1), .int .i64 100, .int .i64 (-32768), .int .i64 32767, .int .i64 5] 2) := ⟨_, rfl⟩
    rw [← hw5] at R5 F5 P5 ⊢
    have x0 := R5.cell 0 _ rfl
    have x1 := R5.cell 1 _ rfl
    have x2 := R5.cell 2 _ rfl
    exact bodyPost_ret (v := vagg 1 32767 ⟨#[]⟩) (by simp [results, Tryd.results25, go_sem, x0, x1, x2]) rfl (ValPostN.of hk' _ _ _ (.inr ⟨by unfold tyOf; decide, by unfold MayV; decide, by unfold In64; decide⟩) P5 F5)
  · go_wp2_with fail
    have R4 := three_blk HR2.out rfl (.int .i64 1) (.int .i64 5) (.string ⟨#[]⟩)
    have F4 := (HF2.out.set_new (p := ⟨q, 0, none⟩) (Nat.le_of_eq HQ.out.symm) (.int .i64 1)).set_new (p := ⟨q, 1, none⟩) (Nat.le_of_eq HQ.out.symm) (.int .i64 5) |>.set_new (p := ⟨q, 2, none⟩) (Nat.le_of_eq HQ.out.symm) (.string ⟨#[]⟩)
    have P4 := ((HPK.out.far (p := ⟨q, 0, none⟩) (Ne.symm hne) (.int .i64 1)).far (p := ⟨q, 1, none⟩) (Ne.symm hne) (.int .i64 5)).far (p := ⟨q, 2, none⟩) (Ne.symm hne) (.string ⟨#[]⟩)
    obtain ⟨w4, hw4⟩ : ∃ w4, w4 = (((w2.setCell ⟨q, 0, none⟩ (.int .i64 1)).setCell ⟨q, 1, none⟩ (.int .i64 5)).setCell ⟨q, 2, none⟩ (.string ⟨#[]⟩)) := ⟨_, rfl⟩
    rw [← hw4] at R4 F4 P4 ⊢
    have l5 := Later.new w4 (.cells #[.int .i64 0, .int .i64 1, .int .i64 2, .int .i64 3, .int .i64 (-1), .int .i64 100, .int .i64 (-32768), .int .i64 32767, .int .i64 5] 2)
    have R5 := R4.later l5
    have F5 := F4.later l5
    have P5 := P4.later l5
    obtain ⟨w5, hw5⟩ : ∃ w5, w5 = w4.alloc (.cells #[.int .i64 0, .int .i64 1, .int .i64 2, .int .i64 3, .int .i64 (-1), .int .i64 100, .int .i64 (-32768), .int .i64 32767, .int .i64 5] 2) := ⟨_, rfl⟩
    rw [← hw5] at R5 F5 P5 ⊢
    have x0 := R5.cell 0 _ rfl
    have x1 := R5.cell 1 _ rfl
    have x2 := R5.cell 2 _ rfl
    exact bodyPost_ret (v := vagg 1 5 ⟨#[]⟩) (by simp [results, Tryd.results25, go_sem, x0, x1, x2]) rfl (ValPostN.of hk' _ _ _ (.inr ⟨by unfold tyOf; decide, by unfold MayV; decide, by unfold In64; decide⟩) P5 F5)

set_option maxRecDepth 100000 in
set_option maxHeartbeats 4000000 in
theorem value_int (g : Nat) (A : Option Addr) (n c k : Nat) (bs : List Nat) (w : World) (h : Pk w g A n c k) (hn : n ≤ 1000) (hk : k ≤ n) (hb : bs.length = n) (hr : Rd w g A (ints .u8 bs)) (h256 : ∀ x ∈ bs, x < 256) :
    Calls Tryd.prog 25 #[.pointer (some ⟨g, 0, none⟩), .int .i64 2] w (ValPostN 2 g A n c w) := by
  obtain ⟨w1, hw1⟩ : ∃ w1, w1 = w.alloc (.cells #[.int .i64 0, .int .i64 0, .string ⟨#[]⟩] 26) := ⟨_, rfl⟩
  have L1 : Later w w1 := hw1 ▸ Later.new _ _
  have R1 : Blk w1 w.heap.size #[.int .i64 0, .int .i64 0, .string ⟨#[]⟩] 26 := hw1 ▸ Blk.new w _ _ _ rfl
  have glt := h.lt
  have HT := Lib.hid (num9_any g A n c k bs w1 (h.later L1) hn hk hb (Rd.below hr (Far.of glt L1).2.1) h256)
  have HF := Lib.hid (Far.of glt L1)
  have HW := Lib.hid hw1
  obtain ⟨q, hq⟩ : ∃ q, q = w.heap.size := ⟨_, rfl⟩
  have HQ := Lib.hid hq
  rw [← hq] at R1
  have hne : q ≠ g := by omega
  clear hw1 L1 h hr h256 hb hq glt
  go_enter Tryd.func25, Tryd.ntmps25
  go_wp2_with fail
  rw [← HW.out]
  refine HT.out.mono ?_
  rintro e w2 ⟨r, k', hr9, hk', rfl, pk, f2⟩
  have PK := pk
  have R2 := f2.blk R1 hne
  have HF2 := Lib.hid (HF.out.trans f2)
  rw [← HQ.out]
  have r0 := R2.cell 0 _ rfl
  have r1 := R2.cell 1 _ rfl
  have r2 := R2.cell 2 _ rfl
  have f0 := R2.frozen 0
  have f1 := R2.frozen 1
  have f3 := R2.frozen 2
  have HPK := Lib.hid PK
  have HR2 := Lib.hid R2
  have zq := R2.lt
  clear HT HF R1 HW f2 pk PK R2 hk
  obtain rfl | rfl | rfl | rfl | rfl | rfl | rfl | rfl | rfl : r = 0 ∨ r = 1 ∨ r = 2 ∨ r = 3 ∨ r = 4 ∨ r = 5 ∨ r = 6 ∨ r = 7 ∨ r = 8 := by omega
  · by_cases hov : n ≤ k'
    · rw [show ((0 : Nat) : Int) = 0 from rfl]
      go_wp2_with fail
      refine (over_any g A n c k' _ HPK.out hn hk').mono ?_
      rintro e w3 ⟨rfl, l3⟩
      rw [show decide (n ≤ k') = true by simp [hov]]
      have R3 := HR2.out.later l3
      have P3 := HPK.out.later l3
      have HF2 := Lib.hid (HF2.out.later l3)
      clear HR2 HPK r0 r1 r2 f0 f1 f3 zq
      have HR2 := Lib.hid R3
      have HPK := Lib.hid P3
      have y0 := R3.cell 0 _ rfl
      have y1 := R3.cell 1 _ rfl
      have y2 := R3.cell 2 _ rfl
      have g0 := R3.frozen 0
      have g1 := R3.frozen 1
      have g2 := R3.frozen 2
      have zq3 := R3.lt
      clear R3 P3 l3
      go_wp2_with fail
      have R4 := three_blk HR2.out rfl (.int .i64 2) (.int .i64 0) (.string ⟨#[]⟩)
      have F4 := (HF2.out.set_new (p := ⟨q, 0, none⟩) (Nat.le_of_eq HQ.out.symm) (.int .i64 2)).set_new (p := ⟨q, 1, none⟩) (Nat.le_of_eq HQ.out.symm) (.int .i64 0) |>.set_new (p := ⟨q, 2, none⟩) (Nat.le_of_eq HQ.out.symm) (.string ⟨#[]⟩)
      have P4 := ((HPK.out.far (p := ⟨q, 0, none⟩) (Ne.symm hne) (.int .i64 2)).far (p := ⟨q, 1, none⟩) (Ne.symm hne) (.int .i64 0)).far (p := ⟨q, 2, none⟩) (Ne.symm hne) (.string ⟨#[]⟩)
      obtain ⟨w4, hw4⟩ : ∃ w4, w4 = (((w3.setCell ⟨q, 0, none⟩ (.int .i64 2)).setCell ⟨q, 1, none⟩ (.int .i64 0)).setCell ⟨q, 2, none⟩ (.string ⟨#[]⟩)) := ⟨_, rfl⟩
      rw [← hw4] at R4 F4 P4 ⊢
      have l5 := Later.new w4 (.cells #[.int .i64 0, .int .i64 1, .int .i64 2, .int .i64 3, .int .i64 (-1), .int .i64 1000000, .int .i64 (-9223372036854775808), .int .i64 9223372036854775807, .int .i64 4611686018427387904] 2)
      have R5 := R4.later l5
      have F5 := F4.later l5
      have P5 := P4.later l5
      obtain ⟨w5, hw5⟩ : ∃ w5, w5 = w4.alloc (.cells #[.int .i64 0, .int .i64 1, .int .i64 2, .int .i64 3, .int .i64 (-1), .int .i64 1000000, .int .i64 (-9223372036854775808), .int .i64 9223372036854775807, .int .i64 4611686018427387904] 2) := ⟨_, rfl⟩
      rw [← hw5] at R5 F5 P5 ⊢
      have x0 := R5.cell 0 _ rfl
      have x1 := R5.cell 1 _ rfl
      have x2 := R5.cell 2 _ rfl
      exact bodyPost_ret (v := vagg 2 0 ⟨#[]⟩) (by simp [results, Tryd.results25, go_sem, x0, x1, x2]) rfl (ValPostN.of hk' _ _ _ (.inr ⟨by unfold tyOf; decide, by unfold MayV; decide, by unfold In64; decide⟩) P5 F5)
    · rw [show ((0 : Nat) : Int) = 0 from rfl]
      go_wp2_with fail
      refine (over_any g A n c k' _ HPK.out hn hk').mono ?_
      rintro e w3 ⟨rfl, l3⟩
      rw [show decide (n ≤ k') = false by simp [hov]]
      have R3 := HR2.out.later l3
      have P3 := HPK.out.later l3
      have HF2 := Lib.hid (HF2.out.later l3)
      clear HR2 HPK r0 r1 r2 f0 f1 f3 zq
      have HR2 := Lib.hid R3
      have HPK := Lib.hid P3
      have y0 := R3.cell 0 _ rfl
      have y1 := R3.cell 1 _ rfl
      have y2 := R3.cell 2 _ rfl
      have g0 := R3.frozen 0
      have g1 := R3.frozen 1
      have g2 := R3.frozen 2
      have zq3 := R3.lt
      clear R3 P3 l3
      go_wp2_with fail
      have R4 := three_blk HR2.out rfl (.int .i64 0) (.int .i64 0) (.string ⟨#[]⟩)
      have F4 := (HF2.out.set_new (p := ⟨q, 0, none⟩) (Nat.le_of_eq HQ.out.symm) (.int .i64 0)).set_new (p := ⟨q, 1, none⟩) (Nat.le_of_eq HQ.out.symm) (.int .i64 0) |>.set_new (p := ⟨q, 2, none⟩) (Nat.le_of_eq HQ.out.symm) (.string ⟨#[]⟩)
      have P4 := ((HPK.out.far (p := ⟨q, 0, none⟩) (Ne.symm hne) (.int .i64 0)).far (p := ⟨q, 1, none⟩) (Ne.symm hne) (.int .i64 0)).far (p := ⟨q, 2, none⟩) (Ne.symm hne) (.string ⟨#[]⟩)
      obtain ⟨w4, hw4⟩ : ∃ w4, w4 = (((w3.setCell ⟨q, 0, none⟩ (.int .i64 0)).setCell ⟨q, 1, none⟩ (.int .i64 0)).setCell ⟨q, 2, none⟩ (.string ⟨#[]⟩)) := ⟨_, rfl⟩
      rw [← hw4] at R4 F4 P4 ⊢
      have R5 := R4
      have F5 := F4
      have P5 := P4
      have x0 := R5.cell 0 _ rfl
      have x1 := R5.cell 1 _ rfl
      have x2 := R5.cell 2 _ rfl
      exact bodyPost_ret (v := vagg 0 0 ⟨#[]⟩) (by simp [results, Tryd.results25, go_sem, x0, x1, x2]) rfl (ValPostN.of hk' _ _ _ (.inl ⟨rfl, rfl, rfl⟩) P5 F5)
  · go_wp2_with fail
    have R4 := three_blk HR2.out rfl (.int .i64 2) (.int .i64 1) (.string ⟨#[]⟩)
    have F4 := (HF2.out.set_new (p := ⟨q, 0, none⟩) (Nat.le_of_eq HQ.out.symm) (.int .i64 2)).set_new (p := ⟨q, 1, none⟩) (Nat.le_of_eq HQ.out.symm) (.int .i64 1) |>.set_new (p := ⟨q, 2, none⟩) (Nat.le_of_eq HQ.out.symm) (.string ⟨#[]⟩)
    have P4 := ((HPK.out.far (p := ⟨q, 0, none⟩) (Ne.symm hne) (.int .i64 2)).far (p := ⟨q, 1, none⟩) (Ne.symm hne) (.int .i64 1)).far (p := ⟨q, 2, none⟩) (Ne.symm hne) (.string ⟨#[]⟩)
    obtain ⟨w4, hw4⟩ : ∃ w4, w4 = (((w2.setCell ⟨q, 0, none⟩ (.int .i64 2)).setCell ⟨q, 1, none⟩ (.int .i64 1)).setCell ⟨q, 2, none⟩ (.string ⟨#[]⟩)) := ⟨_, rfl⟩
    rw [← hw4] at R4 F4 P4 ⊢
    have l5 := Later.new w4 (.cells #[.int .i64 0, .int .i64 1, .int .i64 2, .int .i64 3, .int .i64 (-1), .int .i64 1000000, .int .i64 (-9223372036854775808), .int .i64 9223372036854775807, .int .i64 4611686018427387904] 2)
    have R5 := R4.later l5
    have F5 := F4.later l5
    have P5 := P4.later l5
    obtain ⟨w5, hw5⟩ : ∃ w5, w5 = w4.alloc (.cells #[.int .i64 0, .int .i64 1, .int .i64 2, .int .i64 3, .int .i64 (-1), .int .i64 1000000, .int .i64 (-9223372036854775808), .int .i64 9223372036854775807, .int .i64 4611686018427387904] 2) := ⟨_, rfl⟩
    rw [← hw5] at R5 F5 P5 ⊢
    have x0 := R5.cell 0 _ rfl
    have x1 := R5.cell 1 _ rfl
    have x2 := R5.cell 2 _ rfl
    exact bodyPost_ret (v := vagg 2 1 ⟨#[]⟩) (by simp [results, Tryd.results25, go_sem, x0, x1, x2]) rfl (ValPostN.of hk' _ _ _ (.inr ⟨by unfold tyOf; decide, by unfold MayV; decide, by unfold In64; decide⟩) P5 F5)
  · go_wp2_with fail
    have R4 := three_blk HR2.out rfl (.int .i64 2) (.int .i64 2) (.string ⟨#[]⟩)
    have F4 := (HF2.out.set_new (p := ⟨q, 0, none⟩) (Nat.le_of_eq HQ.out.symm) (.int .i64 2)).set_new (p := ⟨q, 1, none⟩) (Nat.le_of_eq HQ.out.symm) (.int .i64 2) |>.set_new (p := ⟨q, 2, none⟩) (Nat.le_of_eq HQ.out.symm) (.string ⟨#[]⟩)
    have P4 := ((HPK.out.far (p := ⟨q, 0, none⟩) (Ne.symm hne) (.int .i64 2)).far (p := ⟨q, 1, none⟩) (Ne.symm hne) (.int .i64 2)).far (p := ⟨q, 2, none⟩) (Ne.symm hne) (.string ⟨#[]⟩)
    obtain ⟨w4, hw4⟩ : ∃ w4, w4 = (((w2.setCell ⟨q, 0, none⟩ (.int .i64 2)).setCell ⟨q, 1, none⟩ (.int .i64 2)).setCell ⟨q, 2, none⟩ (.string ⟨#[]⟩)) := ⟨_, rfl⟩
    rw [← hw4] at R4 F4 P4 ⊢
    have l5 := Later.new w4 (.cells #[.int .i64 0, .int .i64 1, .int .i64 2, .int .i64 3, .int .i64 (-1), .int .i64 1000000, .int .i64 (-9223372036854775808), .int .i64 9223372036854775807, .int .i64 4611686018427387904] 2)
    have R5 := R4.later l5
    have F5 := F4.later l5
    have P5 := P4.later l5
    obtain ⟨w5, hw5⟩ : ∃ w5, w5 = w4.alloc (.cells #[.int .i64 0, .int .i64 1, .int .i64 2, .int .i64 3, .int .i64 (-1), .int .i64 1000000, .int .i64 (-9223372036854775808), .int .i64 9223372036854775807, .int .i64 4611686018427387904] 2) := ⟨_, rfl⟩
    rw [← hw5] at R5 F5 P5 ⊢
    have x0 := R5.cell 0 _ rfl
    have x1 := R5.cell 1 _ rfl
    have x2 := R5.cell 2 _ rfl
    exact bodyPost_ret (v := vagg 2 2 ⟨#[]⟩) (by simp [results, Tryd.results25, go_sem, x0, x1, x2]) rfl (ValPostN.of hk' _ _ _ (.inr ⟨by unfold tyOf; decide, by unfold MayV; decide, by unfold In64; decide⟩) P5 F5)
  · go_wp2_with fail
    have R4 := three_blk HR2.out rfl (.int .i64 2) (.int .i64 3) (.string ⟨#[]⟩)
    have F4 := (HF2.out.set_new (p := ⟨q, 0, none⟩) (Nat.le_of_eq HQ.out.symm) (.int .i64 2)).set_new (p := ⟨q, 1, none⟩) (Nat.le_of_eq HQ.out.symm) (.int .i64 3) |>.set_new (p := ⟨q, 2, none⟩) (Nat.le_of_eq HQ.out.symm) (.string ⟨#[]⟩)
    have P4 := ((HPK.out.far (p := ⟨q, 0, none⟩) (Ne.symm hne) (.int .i64 2)).far (p := ⟨q, 1, none⟩) (Ne.symm hne) (.int .i64 3)).far (p := ⟨q, 2, none⟩) (Ne.symm hne) (.string ⟨#[]⟩)
    obtain ⟨w4, hw4⟩ : ∃ w4, w4 = (((w2.setCell ⟨q, 0, none⟩ (.int .i64 2)).setCell ⟨q, 1, none⟩ (.int .i64 3)).setCell ⟨q, 2, none⟩ (.string ⟨#[]⟩)) := ⟨_, rfl⟩
    rw [← hw4] at R4 F4 P4 ⊢
    have l5 := Later.new w4 (.cells #[.int .i64 0, .int .i64 1, .int .i64 2, .int .i64 3, .int .i64 (-1), .int .i64 1000000, .int .i64 (-9223372036854775808), .int .i64 9223372036854775807, .int .i64 4611686018427387904] 2)
    have R5 := R4.later l5
    have F5 := F4.later l5
    have P5 := P4.later l5
    obtain ⟨w5, hw5⟩ : ∃ w5, w5 = w4.alloc (.cells #[.int .i64 0, .int .i64 1, .int .i64 2, .int .i64 3, .int .i64 (-1), .int .i64 1000000, .int .i64 (-9223372036854775808), .int .i64 9223372036854775807, .int .i64 4611686018427387904] 2) := ⟨_, rfl⟩
    rw [← hw5] at R5 F5 P5 ⊢
    have x0 := R5.cell 0 _ rfl
    have x1 := R5.cell 1 _ rfl
    have x2 := R5.cell 2 _ rfl
    exact bodyPost_ret (v := vagg 2 3 ⟨#[]⟩) (by simp [results, Tryd.results25, go_sem, x0, x1, x2]) rfl (ValPostN.of hk' _ _ _ (.inr ⟨by unfold tyOf; decide, by unfold MayV; decide, by unfold In64; decide⟩) P5 F5)
  · go_wp2_with fail
    have R4 := three_blk HR2.out rfl (.int .i64 2) (.int .i64 (-1)) (.string ⟨#[]⟩)
    have F4 := (HF2.out.set_new (p := ⟨q, 0, none⟩) (Nat.le_of_eq HQ.out.symm) (.int .i64 2)).set_new (p := ⟨q, 1, none⟩) (Nat.le_of_eq HQ.out.symm) (.int .i64 (-1)) |>.set_new (p := ⟨q, 2, none⟩) (Nat.le_of_eq HQ.out.symm) (.string ⟨#[]⟩)
    have P4 := ((HPK.out.far (p := ⟨q, 0, none⟩) (Ne.symm hne) (.int .i64 2)).far (p := ⟨q, 1, none⟩) (Ne.symm hne) (.int .i64 (-1))).far (p := ⟨q, 2, none⟩) (Ne.symm hne) (.string ⟨#[]⟩)
    obtain ⟨w4, hw4⟩ : ∃ w4, w4 = (((w2.setCell ⟨q, 0, none⟩ (.int .i64 2)).setCell ⟨q, 1, none⟩ (.int .i64 (-1))).setCell ⟨q, 2, none⟩ (.string ⟨#[]⟩)) := ⟨_, rfl⟩
    rw [← hw4] at R4 F4 P4 ⊢
    have l5 := Later.new w4 (.cells #[.int .i64 0, .int .i64 1, .int .i64 2, .int .i64 3, .int .i64 (-1), .int .i64 1000000, .int .i64 (-9223372036854775808), .int .i64 9223372036854775807, .int .i64 4611686018427387904] 2)
    have R5 := R4.later l5
    have F5 := F4.later l5
    have P5 := P4.later l5
    obtain ⟨w5, hw5⟩ : ∃ w5, w5 = w4.alloc (.cells #[.int .i64 0, .int .i64 1, .int .i64 2, .int .i64 3, .int .i64 (-1), .int .i64 1000000, .int .i64 (-9223372036854775808), .int .i64 9223372036854775807, .int .i64 4611686018427387904] 2) := ⟨_, rfl⟩
    rw [← hw5] at R5 F5 P5 ⊢
    have x0 := R5.cell 0 _ rfl
    have x1 := R5.cell 1 _ rfl
    have x2 := R5.cell 2 _ rfl
    exact bodyPost_ret (v := vagg 2 (-1) ⟨#[]⟩) (by simp [results, Tryd.results25, go_sem, x0, x1, x2]) rfl (ValPostN.of hk' _ _ _ (.inr ⟨by unfold tyOf; decide, by unfold MayV; decide, by unfold In64; decide⟩) P5 F5)
  · go_wp2_with fail
    have R4 := three_blk HR2.out rfl (.int .i64 2) (.int .i64 1000000) (.string ⟨#[]⟩)
    have F4 := (HF2.out.set_new (p := ⟨q, 0, none⟩) (Nat.le_of_eq HQ.out.symm) (.int .i64 2)).set_new (p := ⟨q, 1, none⟩) (Nat.le_of_eq HQ.out.symm) (.int .i64 1000000) |>.set_new (p := ⟨q, 2, none⟩) (Nat.le_of_eq HQ.out.symm) (.string ⟨#[]⟩)
    have P4 := ((HPK.out.far (p := ⟨q, 0, none⟩) (Ne.symm hne) (.int .i64 2)).far (p := ⟨q, 1, none⟩) (Ne.symm hne) (.int .i64 1000000)).far (p := ⟨q, 2, none⟩) (Ne.symm hne) (.string ⟨#[]⟩)
    obtain ⟨w4, hw4⟩ : ∃ w4, w4 = (((w2.setCell ⟨q, 0, none⟩ (.int .i64 2)).setCell ⟨q, 1, none⟩ (.int .i64 1000000)).setCell ⟨q, 2, none⟩ (.string ⟨#[]⟩)) := ⟨_, rfl⟩
    rw [← hw4] at R4 F4 P4 ⊢
    have l5 := Later.new w4 (.cells #[.int .i64 0, .int .i64 1, .int .i64 2, .int .i64 3, .int .i64 (-1), .int .i64 1000000, .int .i64 (-9223372036854775808), .int .i64 9223372036854775807, .int .i64 4611686018427387904] 2)
    have R5 := R4.later l5
    have F5 := F4.later l5
    have P5 := P4.later l5
    obtain ⟨w5, hw5⟩ : ∃ w5, w5 = w4.alloc (.cells #[.int .i64 0, .int .i64 1, .int .i64 2, .int .i64 3, .int .i64 (-1), .int .i64 1000000, .int .i64 (-9223372036854775808), .int .i64 9223372036854775807, .int .i64 4611686018427387904] 2) := ⟨_, rfl⟩
    rw [← hw5] at R5 F5 P5 ⊢
    have x0 := R5.cell 0 _ rfl
    have x1 := R5.cell 1 _ rfl
    have x2 := R5.cell 2 _ rfl
    exact bodyPost_ret (v := vagg 2 1000000 ⟨#[]⟩) (by simp [results, Tryd.results25, go_sem, x0, x1, x2]) rfl (ValPostN.of hk' _ _ _ (.inr ⟨by unfold tyOf; decide, by unfold MayV; decide, by unfold In64; decide⟩) P5 F5)
  · go_wp2_with fail
    have R4 := three_blk HR2.out rfl (.int .i64 2) (.int .i64 (-9223372036854775808)) (.string ⟨#[]⟩)
    have F4 := (HF2.out.set_new (p := ⟨q, 0, none⟩) (Nat.le_of_eq HQ.out.symm) (.int .i64 2)).set_new (p := ⟨q, 1, none⟩) (Nat.le_of_eq HQ.out.symm) (.int .i64 (-9223372036854775808)) |>.set_new (p := ⟨q, 2, none⟩) (Nat.le_of_eq HQ.out.symm) (.string ⟨#[]⟩)
    have P4 := ((HPK.out.far (p := ⟨q, 0, none⟩) (Ne.symm hne) (.int .i64 2)).far (p := ⟨q, 1, none⟩) (Ne.symm hne) (.int .i64 (-9223372036854775808))).far (p := ⟨q, 2, none⟩) (Ne.symm hne) (.string ⟨#[]⟩)
    obtain ⟨w4, hw4⟩ : ∃ w4, w4 = (((w2.setCell ⟨q, 0, none⟩ (.int .i64 2)).setCell ⟨q, 1, none⟩ (.int .i64 (-9223372036854775808))).setCell ⟨q, 2, none⟩ (.string ⟨#[]⟩)) := ⟨_, rfl⟩
    rw [← hw4] at R4 F4 P4 ⊢
    have l5 := Later.new w4 (.cells #[.int .i64 0, .int .i64 1, .int .i64 2, .int .i64 3, .int .i64 (-1), .int .i64 1000000, .int .i64 (-9223372036854775808), .int .i64 9223372036854775807, .int .i64 4611686018427387904] 2)
    have R5 := R4.later l5
    have F5 := F4.later l5
    have P5 := P4.later l5
    obtain ⟨w5, hw5⟩ : ∃ w5, w5 = w4.alloc (.cells #[.int .i64 0, .int .i64 1, .int .i64 2, .int .i64 3, .int .i64 (-1), .int .i64 1000000, .int .i64 (-9223372036854775808), .int .i64 9223372036854775807, .int .i64 4611686018427387904] 2) := ⟨_, rfl⟩
    rw [← hw5] at R5 F5 P5 ⊢
    have x0 := R5.cell 0 _ rfl
    have x1 := R5.cell 1 _ rfl
    have x2 := R5.cell 2 _ rfl
    exact bodyPost_ret (v := vagg 2 (-9223372036854775808) ⟨#[]⟩) (by simp [results, Tryd.results25, go_sem, x0, x1, x2]) rfl (ValPostN.of hk' _ _ _ (.inr ⟨by unfold tyOf; decide, by unfold MayV; decide, by unfold In64; decide⟩) P5 F5)
  · go_wp2_with fail
    have R4 := three_blk HR2.out rfl (.int .i64 2) (.int .i64 9223372036854775807) (.string ⟨#[]⟩)
    have F4 := (HF2.out.set_new (p := ⟨q, 0, none⟩) (Nat.le_of_eq HQ.out.symm) (.int .i64 2)).set_new (p := ⟨q, 1, none⟩) (Nat.le_of_eq HQ.out.symm) (.int .i64 9223372036854775807) |>.set_new (p := ⟨q, 2, none⟩) (Nat.le_of_eq HQ.out.symm) (.string ⟨#[]⟩)
    have P4 := ((HPK.out.far (p := ⟨q, 0, none⟩) (Ne.symm hne) (.int .i64 2)).far (p := ⟨q, 1, none⟩) (Ne.symm hne) (.int .i64 9223372036854775807)).far (p := ⟨q, 2, none⟩) (Ne.symm hne) (.string ⟨#[]⟩)
    obtain ⟨w4, hw4⟩ : ∃ w4, w4 = (((w2.setCell ⟨q, 0, none⟩ (.int .i64 2)).setCell ⟨q, 1, none⟩ (.int .i64 9223372036854775807)).setCell ⟨q, 2, none⟩ (.string ⟨#[]⟩)) := ⟨_, rfl⟩
    rw [← hw4] at R4 F4 P4 ⊢
    have l5 := Later.new w4 (.cells #[.int .i64 0, .int .i64 1, .int .i64 2, .int .i64 3, .int .i64 (-1), .int .i64 1000000, .int .i64 (-9223372036854775808), .int .i64 9223372036854775807, .int .i64 4611686018427387904] 2)
    have R5 := R4.later l5
    have F5 := F4.later l5
    have P5 := P4.later l5
    obtain ⟨w5, hw5⟩ : ∃ w5, w5 = w4.alloc (.cells #[.int .i64 0, .int .i64 1, .int .i64 2, .int .i64 3, .int .i64 (-1), .int .i64 1000000, .int .i64 (-9223372036854775808), .int .i64 9223372036854775807, .int .i64 4611686018427387904] 2) := ⟨_, rfl⟩
    rw [← hw5] at R5 F5 P5 ⊢
    have x0 := R5.cell 0 _ rfl
    have x1 := R5.cell 1 _ rfl
    have x2 := R5.cell 2 _ rfl
    exact bodyPost_ret (v := vagg 2 9223372036854775807 ⟨#[]⟩) (by simp [results, Tryd.results25, go_sem, x0, x1, x2]) rfl (ValPostN.of hk' _ _ _ (.inr ⟨by unfold tyOf; decide, by unfold MayV; decide, by unfold In64; decide⟩) P5 F5)
  · go_wp2_with fail
    have R4 := three_blk HR2.out rfl (.int .i64 2) (.int .i64 4611686018427387904) (.string ⟨#[]⟩)
    have F4 := (HF2.out.set_new (p := ⟨q, 0, none⟩) (Nat.le_of_eq HQ.out.symm) (.int .i64 2)).set_new (p := ⟨q, 1, none⟩) (Nat.le_of_eq HQ.out.symm) (.int .i64 4611686018427387904) |>.set_new (p := ⟨q, 2, none⟩) (Nat.le_of_eq HQ.out.symm) (.string ⟨#[]⟩)
    have P4 := ((HPK.out.far (p := ⟨q, 0, none⟩) (Ne.symm hne) (.int .i64 2)).far (p := ⟨q, 1, none⟩) (Ne.symm hne) (.int .i64 4611686018427387904)).far (p := ⟨q, 2, none⟩) (Ne.symm hne) (.string ⟨#[]⟩)
    obtain ⟨w4, hw4⟩ : ∃ w4, w4 = (((w2.setCell ⟨q, 0, none⟩ (.int .i64 2)).setCell ⟨q, 1, none⟩ (.int .i64 4611686018427387904)).setCell ⟨q, 2, none⟩ (.string ⟨#[]⟩)) := ⟨_, rfl⟩
    rw [← hw4] at R4 F4 P4 ⊢
    have l5 := Later.new w4 (.cells #[.int .i64 0, .int .i64 1, .int .i64 2, .int .i64 3, .int .i64 (-1), .int .i64 1000000, .int .i64 (-9223372036854775808), .int .i64 9223372036854775807, .int .i64 4611686018427387904] 2)
    have R5 := R4.later l5
    have F5 := F4.later l5
    have P5 := P4.later l5
    obtain ⟨w5, hw5⟩ : ∃ w5, w5 = w4.alloc (.cells #[.int .i64 0, .int .i64 1, .int .i64 2, .int .i64 3, .int .i64 (-1), .int .i64 1000000, .int .i64 (-9223372036854775808), .int .i64 9223372036854775807, .int .i64 4611686018427387904] 2) := ⟨_, rfl⟩
    rw [← hw5] at R5 F5 P5 ⊢
    have x0 := R5.cell 0 _ rfl
    have x1 := R5.cell 1 _ rfl
    have x2 := R5.cell 2 _ rfl
    exact bodyPost_ret (v := vagg 2 4611686018427387904 ⟨#[]⟩) (by simp [results, Tryd.results25, go_sem, x0, x1, x2]) rfl (ValPostN.of hk' _ _ _ (.inr ⟨by unfold tyOf; decide, by unfold MayV; decide, by unfold In64; decide⟩) P5 F5)

set_option maxRecDepth 100000 in
set_option maxHeartbeats 4000000 in
theorem value_bool (g : Nat) (A : Option Addr) (n c k : Nat) (bs : List Nat) (w : World) (h : Pk w g A n c k) (hn : n ≤ 1000) (hk : k ≤ n) (hb : bs.length = n) (hr : Rd w g A (ints .u8 bs)) (h256 : ∀ x ∈ bs, x < 256) :
    Calls Tryd.prog 25 #[.pointer (some ⟨g, 0, none⟩), .int .i64 3] w (ValPostN 3 g A n c w) := by
  obtain ⟨w1, hw1⟩ : ∃ w1, w1 = w.alloc (.cells #[.int .i64 0, .int .i64 0, .string ⟨#[]⟩] 26) := ⟨_, rfl⟩
  have L1 : Later w w1 := hw1 ▸ Later.new _ _
  have R1 : Blk w1 w.heap.size #[.int .i64 0, .int .i64 0, .string ⟨#[]⟩] 26 := hw1 ▸ Blk.new w _ _ _ rfl
  have glt := h.lt
  have HT := Lib.hid (num9_any g A n c k bs w1 (h.later L1) hn hk hb (Rd.below hr (Far.of glt L1).2.1) h256)
  have HF := Lib.hid (Far.of glt L1)
  have HW := Lib.hid hw1
  obtain ⟨q, hq⟩ : ∃ q, q = w.heap.size := ⟨_, rfl⟩
  have HQ := Lib.hid hq
  rw [← hq] at R1
  have hne : q ≠ g := by omega
  clear hw1 L1 h hr h256 hb hq glt
  go_enter Tryd.func25, Tryd.ntmps25
  go_wp2_with fail
  rw [← HW.out]
  refine HT.out.mono ?_
  rintro e w2 ⟨r, k', hr9, hk', rfl, pk, f2⟩
  have PK := pk
  have R2 := f2.blk R1 hne
  have HF2 := Lib.hid (HF.out.trans f2)
  rw [← HQ.out]
  have r0 := R2.cell 0 _ rfl
  have r1 := R2.cell 1 _ rfl
  have r2 := R2.cell 2 _ rfl
  have f0 := R2.frozen 0
  have f1 := R2.frozen 1
  have f3 := R2.frozen 2
  have HPK := Lib.hid PK
  have HR2 := Lib.hid R2
  have zq := R2.lt
  clear HT HF R1 HW f2 pk PK R2 hk
  obtain rfl | rfl | rfl | rfl | rfl | rfl | rfl | rfl | rfl : r = 0 ∨ r = 1 ∨ r = 2 ∨ r = 3 ∨ r = 4 ∨ r = 5 ∨ r = 6 ∨ r = 7 ∨ r = 8 := by omega
  · by_cases hov : n ≤ k'
    · rw [show ((0 : Nat) : Int) = 0 from rfl]
      go_wp2_with fail
      refine (over_any g A n c k' _ HPK.out hn hk').mono ?_
      rintro e w3 ⟨rfl, l3⟩
      rw [show decide (n ≤ k') = true by simp [hov]]
      have R3 := HR2.out.later l3
      have P3 := HPK.out.later l3
      have HF2 := Lib.hid (HF2.out.later l3)
      clear HR2 HPK r0 r1 r2 f0 f1 f3 zq
      have HR2 := Lib.hid R3
      have HPK := Lib.hid P3
      have y0 := R3.cell 0 _ rfl
      have y1 := R3.cell 1 _ rfl
      have y2 := R3.cell 2 _ rfl
      have g0 := R3.frozen 0
      have g1 := R3.frozen 1
      have g2 := R3.frozen 2
      have zq3 := R3.lt
      clear R3 P3 l3
      go_wp2_with fail
      have R4 := three_blk HR2.out rfl (.int .i64 3) (.int .i64 0) (.string ⟨#[]⟩)
      have F4 := (HF2.out.set_new (p := ⟨q, 0, none⟩) (Nat.le_of_eq HQ.out.symm) (.int .i64 3)).set_new (p := ⟨q, 1, none⟩) (Nat.le_of_eq HQ.out.symm) (.int .i64 0) |>.set_new (p := ⟨q, 2, none⟩) (Nat.le_of_eq HQ.out.symm) (.string ⟨#[]⟩)
      have P4 := ((HPK.out.far (p := ⟨q, 0, none⟩) (Ne.symm hne) (.int .i64 3)).far (p := ⟨q, 1, none⟩) (Ne.symm hne) (.int .i64 0)).far (p := ⟨q, 2, none⟩) (Ne.symm hne) (.string ⟨#[]⟩)
      obtain ⟨w4, hw4⟩ : ∃ w4, w4 = (((w3.setCell ⟨q, 0, none⟩ (.int .i64 3)).setCell ⟨q, 1, none⟩ (.int .i64 0)).setCell ⟨q, 2, none⟩ (.string ⟨#[]⟩)) := ⟨_, rfl⟩
      rw [← hw4] at R4 F4 P4 ⊢
      have R5 := R4
      have F5 := F4
      have P5 := P4
      have x0 := R5.cell 0 _ rfl
      have x1 := R5.cell 1 _ rfl
      have x2 := R5.cell 2 _ rfl
      exact bodyPost_ret (v := vagg 3 0 ⟨#[]⟩) (by simp [results, Tryd.results25, go_sem, x0, x1, x2]) rfl (ValPostN.of hk' _ _ _ (.inr ⟨by unfold tyOf; decide, by unfold MayV; decide, by unfold In64; decide⟩) P5 F5)
    · rw [show ((0 : Nat) : Int) = 0 from rfl]
      go_wp2_with fail
      refine (over_any g A n c k' _ HPK.out hn hk').mono ?_
      rintro e w3 ⟨rfl, l3⟩
      rw [show decide (n ≤ k') = false by simp [hov]]
      have R3 := HR2.out.later l3
      have P3 := HPK.out.later l3
      have HF2 := Lib.hid (HF2.out.later l3)
      clear HR2 HPK r0 r1 r2 f0 f1 f3 zq
      have HR2 := Lib.hid R3
      have HPK := Lib.hid P3
      have y0 := R3.cell 0 _ rfl
      have y1 := R3.cell 1 _ rfl
      have y2 := R3.cell 2 _ rfl
      have g0 := R3.frozen 0
      have g1 := R3.frozen 1
      have g2 := R3.frozen 2
      have zq3 := R3.lt
      clear R3 P3 l3
      go_wp2_with fail
      have R4 := three_blk HR2.out rfl (.int .i64 0) (.int .i64 0) (.string ⟨#[]⟩)
      have F4 := (HF2.out.set_new (p := ⟨q, 0, none⟩) (Nat.le_of_eq HQ.out.symm) (.int .i64 0)).set_new (p := ⟨q, 1, none⟩) (Nat.le_of_eq HQ.out.symm) (.int .i64 0) |>.set_new (p := ⟨q, 2, none⟩) (Nat.le_of_eq HQ.out.symm) (.string ⟨#[]⟩)
      have P4 := ((HPK.out.far (p := ⟨q, 0, none⟩) (Ne.symm hne) (.int .i64 0)).far (p := ⟨q, 1, none⟩) (Ne.symm hne) (.int .i64 0)).far (p := ⟨q, 2, none⟩) (Ne.symm hne) (.string ⟨#[]⟩)
      obtain ⟨w4, hw4⟩ : ∃ w4, w4 = (((w3.setCell ⟨q, 0, none⟩ (.int .i64 0)).setCell ⟨q, 1, none⟩ (.int .i64 0)).setCell ⟨q, 2, none⟩ (.string ⟨#[]⟩)) := ⟨_, rfl⟩
      rw [← hw4] at R4 F4 P4 ⊢
      have R5 := R4
      have F5 := F4
      have P5 := P4
      have x0 := R5.cell 0 _ rfl
      have x1 := R5.cell 1 _ rfl
      have x2 := R5.cell 2 _ rfl
      exact bodyPost_ret (v := vagg 0 0 ⟨#[]⟩) (by simp [results, Tryd.results25, go_sem, x0, x1, x2]) rfl (ValPostN.of hk' _ _ _ (.inl ⟨rfl, rfl, rfl⟩) P5 F5)
  · go_wp2_with fail
    have R4 := three_blk HR2.out rfl (.int .i64 3) (.int .i64 1) (.string ⟨#[]⟩)
    have F4 := (HF2.out.set_new (p := ⟨q, 0, none⟩) (Nat.le_of_eq HQ.out.symm) (.int .i64 3)).set_new (p := ⟨q, 1, none⟩) (Nat.le_of_eq HQ.out.symm) (.int .i64 1) |>.set_new (p := ⟨q, 2, none⟩) (Nat.le_of_eq HQ.out.symm) (.string ⟨#[]⟩)
    have P4 := ((HPK.out.far (p := ⟨q, 0, none⟩) (Ne.symm hne) (.int .i64 3)).far (p := ⟨q, 1, none⟩) (Ne.symm hne) (.int .i64 1)).far (p := ⟨q, 2, none⟩) (Ne.symm hne) (.string ⟨#[]⟩)
    obtain ⟨w4, hw4⟩ : ∃ w4, w4 = (((w2.setCell ⟨q, 0, none⟩ (.int .i64 3)).setCell ⟨q, 1, none⟩ (.int .i64 1)).setCell ⟨q, 2, none⟩ (.string ⟨#[]⟩)) := ⟨_, rfl⟩
    rw [← hw4] at R4 F4 P4 ⊢
    have R5 := R4
    have F5 := F4
    have P5 := P4
    have x0 := R5.cell 0 _ rfl
    have x1 := R5.cell 1 _ rfl
    have x2 := R5.cell 2 _ rfl
    exact bodyPost_ret (v := vagg 3 1 ⟨#[]⟩) (by simp [results, Tryd.results25, go_sem, x0, x1, x2]) rfl (ValPostN.of hk' _ _ _ (.inr ⟨by unfold tyOf; decide, by unfold MayV; decide, by unfold In64; decide⟩) P5 F5)
  · go_wp2_with fail
    have R4 := three_blk HR2.out rfl (.int .i64 3) (.int .i64 0) (.string ⟨#[]⟩)
    have F4 := (HF2.out.set_new (p := ⟨q, 0, none⟩) (Nat.le_of_eq HQ.out.symm) (.int .i64 3)).set_new (p := ⟨q, 1, none⟩) (Nat.le_of_eq HQ.out.symm) (.int .i64 0) |>.set_new (p := ⟨q, 2, none⟩) (Nat.le_of_eq HQ.out.symm) (.string ⟨#[]⟩)
    have P4 := ((HPK.out.far (p := ⟨q, 0, none⟩) (Ne.symm hne) (.int .i64 3)).far (p := ⟨q, 1, none⟩) (Ne.symm hne) (.int .i64 0)).far (p := ⟨q, 2, none⟩) (Ne.symm hne) (.string ⟨#[]⟩)
    obtain ⟨w4, hw4⟩ : ∃ w4, w4 = (((w2.setCell ⟨q, 0, none⟩ (.int .i64 3)).setCell ⟨q, 1, none⟩ (.int .i64 0)).setCell ⟨q, 2, none⟩ (.string ⟨#[]⟩)) := ⟨_, rfl⟩
    rw [← hw4] at R4 F4 P4 ⊢
    have R5 := R4
    have F5 := F4
    have P5 := P4
    have x0 := R5.cell 0 _ rfl
    have x1 := R5.cell 1 _ rfl
    have x2 := R5.cell 2 _ rfl
    exact bodyPost_ret (v := vagg 3 0 ⟨#[]⟩) (by simp [results, Tryd.results25, go_sem, x0, x1, x2]) rfl (ValPostN.of hk' _ _ _ (.inr ⟨by unfold tyOf; decide, by unfold MayV; decide, by unfold In64; decide⟩) P5 F5)
  · go_wp2_with fail
    have R4 := three_blk HR2.out rfl (.int .i64 3) (.int .i64 1) (.string ⟨#[]⟩)
    have F4 := (HF2.out.set_new (p := ⟨q, 0, none⟩) (Nat.le_of_eq HQ.out.symm) (.int .i64 3)).set_new (p := ⟨q, 1, none⟩) (Nat.le_of_eq HQ.out.symm) (.int .i64 1) |>.set_new (p := ⟨q, 2, none⟩) (Nat.le_of_eq HQ.out.symm) (.string ⟨#[]⟩)
    have P4 := ((HPK.out.far (p := ⟨q, 0, none⟩) (Ne.symm hne) (.int .i64 3)).far (p := ⟨q, 1, none⟩) (Ne.symm hne) (.int .i64 1)).far (p := ⟨q, 2, none⟩) (Ne.symm hne) (.string ⟨#[]⟩)
    obtain ⟨w4, hw4⟩ : ∃ w4, w4 = (((w2.setCell ⟨q, 0, none⟩ (.int .i64 3)).setCell ⟨q, 1, none⟩ (.int .i64 1)).setCell ⟨q, 2, none⟩ (.string ⟨#[]⟩)) := ⟨_, rfl⟩
    rw [← hw4] at R4 F4 P4 ⊢
    have R5 := R4
    have F5 := F4
    have P5 := P4
    have x0 := R5.cell 0 _ rfl
    have x1 := R5.cell 1 _ rfl
    have x2 := R5.cell 2 _ rfl
    exact bodyPost_ret (v := vagg 3 1 ⟨#[]⟩) (by simp [results, Tryd.results25, go_sem, x0, x1, x2]) rfl (ValPostN.of hk' _ _ _ (.inr ⟨by unfold tyOf; decide, by unfold MayV; decide, by unfold In64; decide⟩) P5 F5)
  · go_wp2_with fail
    have R4 := three_blk HR2.out rfl (.int .i64 3) (.int .i64 0) (.string ⟨#[]⟩)
    have F4 := (HF2.out.set_new (p := ⟨q, 0, none⟩) (Nat.le_of_eq HQ.out.symm) (.int .i64 3)).set_new (p := ⟨q, 1, none⟩) (Nat.le_of_eq HQ.out.symm) (.int .i64 0) |>.set_new (p := ⟨q, 2, none⟩) (Nat.le_of_eq HQ.out.symm) (.string ⟨#[]⟩)
    have P4 := ((HPK.out.far (p := ⟨q, 0, none⟩) (Ne.symm hne) (.int .i64 3)).far (p := ⟨q, 1, none⟩) (Ne.symm hne) (.int .i64 0)).far (p := ⟨q, 2, none⟩) (Ne.symm hne) (.string ⟨#[]⟩)
    obtain ⟨w4, hw4⟩ : ∃ w4, w4 = (((w2.setCell ⟨q, 0, none⟩ (.int .i64 3)).setCell ⟨q, 1, none⟩ (.int .i64 0)).setCell ⟨q, 2, none⟩ (.string ⟨#[]⟩)) := ⟨_, rfl⟩
    rw [← hw4] at R4 F4 P4 ⊢
    have R5 := R4
    have F5 := F4
    have P5 := P4
    have x0 := R5.cell 0 _ rfl
    have x1 := R5.cell 1 _ rfl
    have x2 := R5.cell 2 _ rfl
    exact bodyPost_ret (v := vagg 3 0 ⟨#[]⟩) (by simp [results, Tryd.results25, go_sem, x0, x1, x2]) rfl (ValPostN.of hk' _ _ _ (.inr ⟨by unfold tyOf; decide, by unfold MayV; decide, by unfold In64; decide⟩) P5 F5)
  · go_wp2_with fail
    have R4 := three_blk HR2.out rfl (.int .i64 3) (.int .i64 1) (.string ⟨#[]⟩)
    have F4 := (HF2.out.set_new (p := ⟨q, 0, none⟩) (Nat.le_of_eq HQ.out.symm) (.int .i64 3)).set_new (p := ⟨q, 1, none⟩) (Nat.le_of_eq HQ.out.symm) (.int .i64 1) |>.set_new (p := ⟨q, 2, none⟩) (Nat.le_of_eq HQ.out.symm) (.string ⟨#[]⟩)
    have P4 := ((HPK.out.far (p := ⟨q, 0, none⟩) (Ne.symm hne) (.int .i64 3)).far (p := ⟨q, 1, none⟩) (Ne.symm hne) (.int .i64 1)).far (p := ⟨q, 2, none⟩) (Ne.symm hne) (.string ⟨#[]⟩)
    obtain ⟨w4, hw4⟩ : ∃ w4, w4 = (((w2.setCell ⟨q, 0, none⟩ (.int .i64 3)).setCell ⟨q, 1, none⟩ (.int .i64 1)).setCell ⟨q, 2, none⟩ (.string ⟨#[]⟩)) := ⟨_, rfl⟩
    rw [← hw4] at R4 F4 P4 ⊢
    have R5 := R4
    have F5 := F4
    have P5 := P4
    have x0 := R5.cell 0 _ rfl
    have x1 := R5.cell 1 _ rfl
    have x2 := R5.cell 2 _ rfl
    exact bodyPost_ret (v := vagg 3 1 ⟨#[]⟩) (by simp [results, Tryd.results25, go_sem, x0, x1, x2]) rfl (ValPostN.of hk' _ _ _ (.inr ⟨by unfold tyOf; decide, by unfold MayV; decide, by unfold In64; decide⟩) P5 F5)
  · go_wp2_with fail
    have R4 := three_blk HR2.out rfl (.int .i64 3) (.int .i64 0) (.string ⟨#[]⟩)
    have F4 := (HF2.out.set_new (p := ⟨q, 0, none⟩) (Nat.le_of_eq HQ.out.symm) (.int .i64 3)).set_new (p := ⟨q, 1, none⟩) (Nat.le_of_eq HQ.out.symm) (.int .i64 0) |>.set_new (p := ⟨q, 2, none⟩) (Nat.le_of_eq HQ.out.symm) (.string ⟨#[]⟩)
    have P4 := ((HPK.out.far (p := ⟨q, 0, none⟩) (Ne.symm hne) (.int .i64 3)).far (p := ⟨q, 1, none⟩) (Ne.symm hne) (.int .i64 0)).far (p := ⟨q, 2, none⟩) (Ne.symm hne) (.string ⟨#[]⟩)
    obtain ⟨w4, hw4⟩ : ∃ w4, w4 = (((w2.setCell ⟨q, 0, none⟩ (.int .i64 3)).setCell ⟨q, 1, none⟩ (.int .i64 0)).setCell ⟨q, 2, none⟩ (.string ⟨#[]⟩)) := ⟨_, rfl⟩
    rw [← hw4] at R4 F4 P4 ⊢
    have R5 := R4
    have F5 := F4
    have P5 := P4
    have x0 := R5.cell 0 _ rfl
    have x1 := R5.cell 1 _ rfl
    have x2 := R5.cell 2 _ rfl
    exact bodyPost_ret (v := vagg 3 0 ⟨#[]⟩) (by simp [results, Tryd.results25, go_sem, x0, x1, x2]) rfl (ValPostN.of hk' _ _ _ (.inr ⟨by unfold tyOf; decide, by unfold MayV; decide, by unfold In64; decide⟩) P5 F5)
  · go_wp2_with fail
    have R4 := three_blk HR2.out rfl (.int .i64 3) (.int .i64 1) (.string ⟨#[]⟩)
    have F4 := (HF2.out.set_new (p := ⟨q, 0, none⟩) (Nat.le_of_eq HQ.out.symm) (.int .i64 3)).set_new (p := ⟨q, 1, none⟩) (Nat.le_of_eq HQ.out.symm) (.int .i64 1) |>.set_new (p := ⟨q, 2, none⟩) (Nat.le_of_eq HQ.out.symm) (.string ⟨#[]⟩)
    have P4 := ((HPK.out.far (p := ⟨q, 0, none⟩) (Ne.symm hne) (.int .i64 3)).far (p := ⟨q, 1, none⟩) (Ne.symm hne) (.int .i64 1)).far (p := ⟨q, 2, none⟩) (Ne.symm hne) (.string ⟨#[]⟩)
    obtain ⟨w4, hw4⟩ : ∃ w4, w4 = (((w2.setCell ⟨q, 0, none⟩ (.int .i64 3)).setCell ⟨q, 1, none⟩ (.int .i64 1)).setCell ⟨q, 2, none⟩ (.string ⟨#[]⟩)) := ⟨_, rfl⟩
    rw [← hw4] at R4 F4 P4 ⊢
    have R5 := R4
    have F5 := F4
    have P5 := P4
    have x0 := R5.cell 0 _ rfl
    have x1 := R5.cell 1 _ rfl
    have x2 := R5.cell 2 _ rfl
    exact bodyPost_ret (v := vagg 3 1 ⟨#[]⟩) (by simp [results, Tryd.results25, go_sem, x0, x1, x2]) rfl (ValPostN.of hk' _ _ _ (.inr ⟨by unfold tyOf; decide, by unfold MayV; decide, by unfold In64; decide⟩) P5 F5)
  · go_wp2_with fail
    have R4 := three_blk HR2.out rfl (.int .i64 3) (.int .i64 0) (.string ⟨#[]⟩)
    have F4 := (HF2.out.set_new (p := ⟨q, 0, none⟩) (Nat.le_of_eq HQ.out.symm) (.int .i64 3)).set_new (p := ⟨q, 1, none⟩) (Nat.le_of_eq HQ.out.symm) (.int .i64 0) |>.set_new (p := ⟨q, 2, none⟩) (Nat.le_of_eq HQ.out.symm) (.string ⟨#[]⟩)
    have P4 := ((HPK.out.far (p := ⟨q, 0, none⟩) (Ne.symm hne) (.int .i64 3)).far (p := ⟨q, 1, none⟩) (Ne.symm hne) (.int .i64 0)).far (p := ⟨q, 2, none⟩) (Ne.symm hne) (.string ⟨#[]⟩)
    obtain ⟨w4, hw4⟩ : ∃ w4, w4 = (((w2.setCell ⟨q, 0, none⟩ (.int .i64 3)).setCell ⟨q, 1, none⟩ (.int .i64 0)).setCell ⟨q, 2, none⟩ (.string ⟨#[]⟩)) := ⟨_, rfl⟩
    rw [← hw4] at R4 F4 P4 ⊢
    have R5 := R4
    have F5 := F4
    have P5 := P4
    have x0 := R5.cell 0 _ rfl
    have x1 := R5.cell 1 _ rfl
    have x2 := R5.cell 2 _ rfl
    exact bodyPost_ret (v := vagg 3 0 ⟨#[]⟩) (by simp [results, Tryd.results25, go_sem, x0, x1, x2]) rfl (ValPostN.of hk' _ _ _ (.inr ⟨by unfold tyOf; decide, by unfold MayV; decide, by unfold In64; decide⟩) P5 F5)

set_option maxRecDepth 100000 in
set_option maxHeartbeats 4000000 in
theorem value_text (t : Int) (g : Nat) (A : Option Addr) (n c k : Nat) (bs : List Nat) (w : World) (h : Pk w g A n c k) (hn : n ≤ 1000) (hk : k ≤ n) (hb : bs.length = n) (hr : Rd w g A (ints .u8 bs)) (h256 : ∀ x ∈ bs, x < 256) (ht : ¬ (1 ≤ t ∧ t ≤ 3)) :
    Calls Tryd.prog 25 #[.pointer (some ⟨g, 0, none⟩), .int .i64 t] w (ValPostN t g A n c w) := by
  obtain ⟨w1, hw1⟩ : ∃ w1, w1 = w.alloc (.cells #[.int .i64 0, .int .i64 0, .string ⟨#[]⟩] 26) := ⟨_, rfl⟩
  have L1 : Later w w1 := hw1 ▸ Later.new _ _
  have R1 : Blk w1 w.heap.size #[.int .i64 0, .int .i64 0, .string ⟨#[]⟩] 26 := hw1 ▸ Blk.new w _ _ _ rfl
  have glt := h.lt
  have HT := Lib.hid (num9_any g A n c k bs w1 (h.later L1) hn hk hb (Rd.below hr (Far.of glt L1).2.1) h256)
  have HF := Lib.hid (Far.of glt L1)
  have HW := Lib.hid hw1
  obtain ⟨q, hq⟩ : ∃ q, q = w.heap.size := ⟨_, rfl⟩
  have HQ := Lib.hid hq
  rw [← hq] at R1
  have hne : q ≠ g := by omega
  clear hw1 L1 h hr h256 hb hq glt
  go_enter Tryd.func25, Tryd.ntmps25
  go_wp2_with fail
  rw [← HW.out]
  refine HT.out.mono ?_
  rintro e w2 ⟨r, k', hr9, hk', rfl, pk, f2⟩
  have PK := pk
  have R2 := f2.blk R1 hne
  have HF2 := Lib.hid (HF.out.trans f2)
  rw [← HQ.out]
  have r0 := R2.cell 0 _ rfl
  have r1 := R2.cell 1 _ rfl
  have r2 := R2.cell 2 _ rfl
  have f0 := R2.frozen 0
  have f1 := R2.frozen 1
  have f3 := R2.frozen 2
  have HPK := Lib.hid PK
  have HR2 := Lib.hid R2
  have zq := R2.lt
  clear HT HF R1 HW f2 pk PK R2 hk
  have t1 : t ≠ 1 := by omega
  have t2 : t ≠ 2 := by omega
  have t3 : t ≠ 3 := by omega
  obtain rfl | rfl | rfl | rfl | rfl | rfl | rfl | rfl | rfl : r = 0 ∨ r = 1 ∨ r = 2 ∨ r = 3 ∨ r = 4 ∨ r = 5 ∨ r = 6 ∨ r = 7 ∨ r = 8 := by omega
  · by_cases hov : n ≤ k'
    · rw [show ((0 : Nat) : Int) = 0 from rfl]
      go_wp2_with fail
      refine (over_any g A n c k' _ HPK.out hn hk').mono ?_
      rintro e w3 ⟨rfl, l3⟩
      rw [show decide (n ≤ k') = true by simp [hov]]
      have R3 := HR2.out.later l3
      have P3 := HPK.out.later l3
      have HF2 := Lib.hid (HF2.out.later l3)
      clear HR2 HPK r0 r1 r2 f0 f1 f3 zq
      have HR2 := Lib.hid R3
      have HPK := Lib.hid P3
      have y0 := R3.cell 0 _ rfl
      have y1 := R3.cell 1 _ rfl
      have y2 := R3.cell 2 _ rfl
      have g0 := R3.frozen 0
      have g1 := R3.frozen 1
      have g2 := R3.frozen 2
      have zq3 := R3.lt
      clear R3 P3 l3
      go_wp2_with fail
      have R4 := three_blk HR2.out rfl (.int .i64 4) (.int .i64 0) (.string ⟨#[]⟩)
      have F4 := (HF2.out.set_new (p := ⟨q, 0, none⟩) (Nat.le_of_eq HQ.out.symm) (.int .i64 4)).set_new (p := ⟨q, 1, none⟩) (Nat.le_of_eq HQ.out.symm) (.int .i64 0) |>.set_new (p := ⟨q, 2, none⟩) (Nat.le_of_eq HQ.out.symm) (.string ⟨#[]⟩)
      have P4 := ((HPK.out.far (p := ⟨q, 0, none⟩) (Ne.symm hne) (.int .i64 4)).far (p := ⟨q, 1, none⟩) (Ne.symm hne) (.int .i64 0)).far (p := ⟨q, 2, none⟩) (Ne.symm hne) (.string ⟨#[]⟩)
      obtain ⟨w4, hw4⟩ : ∃ w4, w4 = (((w3.setCell ⟨q, 0, none⟩ (.int .i64 4)).setCell ⟨q, 1, none⟩ (.int .i64 0)).setCell ⟨q, 2, none⟩ (.string ⟨#[]⟩)) := ⟨_, rfl⟩
      rw [← hw4] at R4 F4 P4 ⊢
      have l5 := Later.new w4 (.cells #[.string ⟨#[]⟩, .string ⟨#[97]⟩, .string ⟨#[98]⟩, .string ⟨#[97, 58, 98]⟩, .string ⟨#[97, 98]⟩, .string ⟨#[120, 58, 121, 58, 122]⟩, .string ⟨#[58]⟩, .string ⟨#[116, 119, 101, 110, 116, 121, 45, 98, 121, 116, 101, 115, 45, 111, 102, 45, 116, 101, 120, 116]⟩, .string ⟨#[99]⟩] 9)
      have R5 := R4.later l5
      have F5 := F4.later l5
      have P5 := P4.later l5
      obtain ⟨w5, hw5⟩ : ∃ w5, w5 = w4.alloc (.cells #[.string ⟨#[]⟩, .string ⟨#[97]⟩, .string ⟨#[98]⟩, .string ⟨#[97, 58, 98]⟩, .string ⟨#[97, 98]⟩, .string ⟨#[120, 58, 121, 58, 122]⟩, .string ⟨#[58]⟩, .string ⟨#[116, 119, 101, 110, 116, 121, 45, 98, 121, 116, 101, 115, 45, 111, 102, 45, 116, 101, 120, 116]⟩, .string ⟨#[99]⟩] 9) := ⟨_, rfl⟩
      rw [← hw5] at R5 F5 P5 ⊢
      have x0 := R5.cell 0 _ rfl
      have x1 := R5.cell 1 _ rfl
      have x2 := R5.cell 2 _ rfl
      exact bodyPost_ret (v := vagg 4 0 ⟨#[]⟩) (by simp [results, Tryd.results25, go_sem, x0, x1, x2]) rfl (ValPostN.of hk' _ _ _ (.inr ⟨by unfold tyOf; rw [if_neg (by omega)], by unfold MayV; decide, by unfold In64; decide⟩) P5 F5)
    · rw [show ((0 : Nat) : Int) = 0 from rfl]
      go_wp2_with fail
      refine (over_any g A n c k' _ HPK.out hn hk').mono ?_
      rintro e w3 ⟨rfl, l3⟩
      rw [show decide (n ≤ k') = false by simp [hov]]
      have R3 := HR2.out.later l3
      have P3 := HPK.out.later l3
      have HF2 := Lib.hid (HF2.out.later l3)
      clear HR2 HPK r0 r1 r2 f0 f1 f3 zq
      have HR2 := Lib.hid R3
      have HPK := Lib.hid P3
      have y0 := R3.cell 0 _ rfl
      have y1 := R3.cell 1 _ rfl
      have y2 := R3.cell 2 _ rfl
      have g0 := R3.frozen 0
      have g1 := R3.frozen 1
      have g2 := R3.frozen 2
      have zq3 := R3.lt
      clear R3 P3 l3
      go_wp2_with fail
      have R4 := three_blk HR2.out rfl (.int .i64 0) (.int .i64 0) (.string ⟨#[]⟩)
      have F4 := (HF2.out.set_new (p := ⟨q, 0, none⟩) (Nat.le_of_eq HQ.out.symm) (.int .i64 0)).set_new (p := ⟨q, 1, none⟩) (Nat.le_of_eq HQ.out.symm) (.int .i64 0) |>.set_new (p := ⟨q, 2, none⟩) (Nat.le_of_eq HQ.out.symm) (.string ⟨#[]⟩)
      have P4 := ((HPK.out.far (p := ⟨q, 0, none⟩) (Ne.symm hne) (.int .i64 0)).far (p := ⟨q, 1, none⟩) (Ne.symm hne) (.int .i64 0)).far (p := ⟨q, 2, none⟩) (Ne.symm hne) (.string ⟨#[]⟩)
      obtain ⟨w4, hw4⟩ : ∃ w4, w4 = (((w3.setCell ⟨q, 0, none⟩ (.int .i64 0)).setCell ⟨q, 1, none⟩ (.int .i64 0)).setCell ⟨q, 2, none⟩ (.string ⟨#[]⟩)) := ⟨_, rfl⟩
      rw [← hw4] at R4 F4 P4 ⊢
      have R5 := R4
      have F5 := F4
      have P5 := P4
      have x0 := R5.cell 0 _ rfl
      have x1 := R5.cell 1 _ rfl
      have x2 := R5.cell 2 _ rfl
      exact bodyPost_ret (v := vagg 0 0 ⟨#[]⟩) (by simp [results, Tryd.results25, go_sem, x0, x1, x2]) rfl (ValPostN.of hk' _ _ _ (.inl ⟨rfl, rfl, rfl⟩) P5 F5)
  · go_wp2_with fail
    have R4 := three_blk HR2.out rfl (.int .i64 4) (.int .i64 0) (.string ⟨#[97]⟩)
    have F4 := (HF2.out.set_new (p := ⟨q, 0, none⟩) (Nat.le_of_eq HQ.out.symm) (.int .i64 4)).set_new (p := ⟨q, 1, none⟩) (Nat.le_of_eq HQ.out.symm) (.int .i64 0) |>.set_new (p := ⟨q, 2, none⟩) (Nat.le_of_eq HQ.out.symm) (.string ⟨#[97]⟩)
    have P4 := ((HPK.out.far (p := ⟨q, 0, none⟩) (Ne.symm hne) (.int .i64 4)).far (p := ⟨q, 1, none⟩) (Ne.symm hne) (.int .i64 0)).far (p := ⟨q, 2, none⟩) (Ne.symm hne) (.string ⟨#[97]⟩)
    obtain ⟨w4, hw4⟩ : ∃ w4, w4 = (((w2.setCell ⟨q, 0, none⟩ (.int .i64 4)).setCell ⟨q, 1, none⟩ (.int .i64 0)).setCell ⟨q, 2, none⟩ (.string ⟨#[97]⟩)) := ⟨_, rfl⟩
    rw [← hw4] at R4 F4 P4 ⊢
    have l5 := Later.new w4 (.cells #[.string ⟨#[]⟩, .string ⟨#[97]⟩, .string ⟨#[98]⟩, .string ⟨#[97, 58, 98]⟩, .string ⟨#[97, 98]⟩, .string ⟨#[120, 58, 121, 58, 122]⟩, .string ⟨#[58]⟩, .string ⟨#[116, 119, 101, 110, 116, 121, 45, 98, 121, 116, 101, 115, 45, 111, 102, 45, 116, 101, 120, 116]⟩, .string ⟨#[99]⟩] 9)
    have R5 := R4.later l5
    have F5 := F4.later l5
    have P5 := P4.later l5
    obtain ⟨w5, hw5⟩ : ∃ w5, w5 = w4.alloc (.cells #[.string ⟨#[]⟩, .string ⟨#[97]⟩, .string ⟨#[98]⟩, .string ⟨#[97, 58, 98]⟩, .string ⟨#[97, 98]⟩, .string ⟨#[120, 58, 121, 58, 122]⟩, .string ⟨#[58]⟩, .string ⟨#[116, 119, 101, 110, 116, 121, 45, 98, 121, 116, 101, 115, 45, 111, 102, 45, 116, 101, 120, 116]⟩, .string ⟨#[99]⟩] 9) := ⟨_, rfl⟩
    rw [← hw5] at R5 F5 P5 ⊢
    have x0 := R5.cell 0 _ rfl
    have x1 := R5.cell 1 _ rfl
    have x2 := R5.cell 2 _ rfl
    exact bodyPost_ret (v := vagg 4 0 ⟨#[97]⟩) (by simp [results, Tryd.results25, go_sem, x0, x1, x2]) rfl (ValPostN.of hk' _ _ _ (.inr ⟨by unfold tyOf; rw [if_neg (by omega)], by unfold MayV; decide, by unfold In64; decide⟩) P5 F5)
  · go_wp2_with fail
    have R4 := three_blk HR2.out rfl (.int .i64 4) (.int .i64 0) (.string ⟨#[98]⟩)
    have F4 := (HF2.out.set_new (p := ⟨q, 0, none⟩) (Nat.le_of_eq HQ.out.symm) (.int .i64 4)).set_new (p := ⟨q, 1, none⟩) (Nat.le_of_eq HQ.out.symm) (.int .i64 0) |>.set_new (p := ⟨q, 2, none⟩) (Nat.le_of_eq HQ.out.symm) (.string ⟨#[98]⟩)
    have P4 := ((HPK.out.far (p := ⟨q, 0, none⟩) (Ne.symm hne) (.int .i64 4)).far (p := ⟨q, 1, none⟩) (Ne.symm hne) (.int .i64 0)).far (p := ⟨q, 2, none⟩) (Ne.symm hne) (.string ⟨#[98]⟩)
    obtain ⟨w4, hw4⟩ : ∃ w4, w4 = (((w2.setCell ⟨q, 0, none⟩ (.int .i64 4)).setCell ⟨q, 1, none⟩ (.int .i64 0)).setCell ⟨q, 2, none⟩ (.string ⟨#[98]⟩)) := ⟨_, rfl⟩
    rw [← hw4] at R4 F4 P4 ⊢
    have l5 := Later.new w4 (.cells #[.string ⟨#[]⟩, .string ⟨#[97]⟩, .string ⟨#[98]⟩, .string ⟨#[97, 58, 98]⟩, .string ⟨#[97, 98]⟩, .string ⟨#[120, 58, 121, 58, 122]⟩, .string ⟨#[58]⟩, .string ⟨#[116, 119, 101, 110, 116, 121, 45, 98, 121, 116, 101, 115, 45, 111, 102, 45, 116, 101, 120, 116]⟩, .string ⟨#[99]⟩] 9)
    have R5 := R4.later l5
    have F5 := F4.later l5
    have P5 := P4.later l5
    obtain ⟨w5, hw5⟩ : ∃ w5, w5 = w4.alloc (.cells #[.string ⟨#[]⟩, .string ⟨#[97]⟩, .string ⟨#[98]⟩, .string ⟨#[97, 58, 98]⟩, .string ⟨#[97, 98]⟩, .string ⟨#[120, 58, 121, 58, 122]⟩, .string ⟨#[58]⟩, .string ⟨#[116, 119, 101, 110, 116, 121, 45, 98, 121, 116, 101, 115, 45, 111, 102, 45, 116, 101, 120, 116]⟩, .string ⟨#[99]⟩] 9) := ⟨_, rfl⟩
    rw [← hw5] at R5 F5 P5 ⊢
    have x0 := R5.cell 0 _ rfl
    have x1 := R5.cell 1 _ rfl
    have x2 := R5.cell 2 _ rfl
    exact bodyPost_ret (v := vagg 4 0 ⟨#[98]⟩) (by simp [results, Tryd.results25, go_sem, x0, x1, x2]) rfl (ValPostN.of hk' _ _ _ (.inr ⟨by unfold tyOf; rw [if_neg (by omega)], by unfold MayV; decide, by unfold In64; decide⟩) P5 F5)
  · go_wp2_with fail
    have R4 := three_blk HR2.out rfl (.int .i64 4) (.int .i64 0) (.string ⟨#[97, 58, 98]⟩)
    have F4 := (HF2.out.set_new (p := ⟨q, 0, none⟩) (Nat.le_of_eq HQ.out.symm) (.int .i64 4)).set_new (p := ⟨q, 1, none⟩) (Nat.le_of_eq HQ.out.symm) (.int .i64 0) |>.set_new (p := ⟨q, 2, none⟩) (Nat.le_of_eq HQ.out.symm) (.string ⟨#[97, 58, 98]⟩)
    have P4 := ((HPK.out.far (p := ⟨q, 0, none⟩) (Ne.symm hne) (.int .i64 4)).far (p := ⟨q, 1, none⟩) (Ne.symm hne) (.int .i64 0)).far (p := ⟨q, 2, none⟩) (Ne.symm hne) (.string ⟨#[97, 58, 98]⟩)
    obtain ⟨w4, hw4⟩ : ∃ w4, w4 = (((w2.setCell ⟨q, 0, none⟩ (.int .i64 4)).setCell ⟨q, 1, none⟩ (.int .i64 0)).setCell ⟨q, 2, none⟩ (.string ⟨#[97, 58, 98]⟩)) := ⟨_, rfl⟩
    rw [← hw4] at R4 F4 P4 ⊢
    have l5 := Later.new w4 (.cells #[.string ⟨#[]⟩, .string ⟨#[97]⟩, .string ⟨#[98]⟩, .string ⟨#[97, 58, 98]⟩, .string ⟨#[97, 98]⟩, .string ⟨#[120, 58, 121, 58, 122]⟩, .string ⟨#[58]⟩, .string ⟨#[116, 119, 101, 110, 116, 121, 45, 98, 121, 116, 101, 115, 45, 111, 102, 45, 116, 101, 120, 116]⟩, .string ⟨#[99]⟩] 9)
    have R5 := R4.later l5
    have F5 := F4.later l5
    have P5 := P4.later l5
    obtain ⟨w5, hw5⟩ : ∃ w5, w5 = w4.alloc (.cells #[.string ⟨#[]⟩, .string ⟨#[97]⟩, .string ⟨#[98]⟩, .string ⟨#[97, 58, 98]⟩, .string ⟨#[97, 98]⟩, .string ⟨#[120, 58, 121, 58, 122]⟩, .string ⟨#[58]⟩, .string ⟨#[116, 119, 101, 110, 116, 121, 45, 98, 121, 116, 101, 115, 45, 111, 102, 45, 116, 101, 120, 116]⟩, .string ⟨#[99]⟩] 9) := ⟨_, rfl⟩
    rw [← hw5] at R5 F5 P5 ⊢
    have x0 := R5.cell 0 _ rfl
    have x1 := R5.cell 1 _ rfl
    have x2 := R5.cell 2 _ rfl
    exact bodyPost_ret (v := vagg 4 0 ⟨#[97, 58, 98]⟩) (by simp [results, Tryd.results25, go_sem, x0, x1, x2]) rfl (ValPostN.of hk' _ _ _ (.inr ⟨by unfold tyOf; rw [if_neg (by omega)], by unfold MayV; decide, by unfold In64; decide⟩) P5 F5)
  · go_wp2_with fail
    have R4 := three_blk HR2.out rfl (.int .i64 4) (.int .i64 0) (.string ⟨#[97, 98]⟩)
    have F4 := (HF2.out.set_new (p := ⟨q, 0, none⟩) (Nat.le_of_eq HQ.out.symm) (.int .i64 4)).set_new (p := ⟨q, 1, none⟩) (Nat.le_of_eq HQ.out.symm) (.int .i64 0) |>.set_new (p := ⟨q, 2, none⟩) (Nat.le_of_eq HQ.out.symm) (.string ⟨#[97, 98]⟩)
    have P4 := ((HPK.out.far (p := ⟨q, 0, none⟩) (Ne.symm hne) (.int .i64 4)).far (p := ⟨q, 1, none⟩) (Ne.symm hne) (.int .i64 0)).far (p := ⟨q, 2, none⟩) (Ne.symm hne) (.string ⟨#[97, 98]⟩)
    obtain ⟨w4, hw4⟩ : ∃ w4, w4 = (((w2.setCell ⟨q, 0, none⟩ (.int .i64 4)).setCell ⟨q, 1, none⟩ (.int .i64 0)).setCell ⟨q, 2, none⟩ (.string ⟨#[97, 98]⟩)) := ⟨_, rfl⟩
    rw [← hw4] at R4 F4 P4 ⊢
    have l5 := Later.new w4 (.cells #[.string ⟨#[]⟩, .string ⟨#[97]⟩, .string ⟨#[98]⟩, .string ⟨#[97, 58, 98]⟩, .string ⟨#[97, 98]⟩, .string ⟨#[120, 58, 121, 58, 122]⟩, .string ⟨#[58]⟩, .string ⟨#[116, 119, 101, 110, 116, 121, 45, 98, 121, 116, 101, 115, 45, 111, 102, 45, 116, 101, 120, 116]⟩, .string ⟨#[99]⟩] 9)
    have R5 := R4.later l5
    have F5 := F4.later l5
    have P5 := P4.later l5
    obtain ⟨w5, hw5⟩ : ∃ w5, w5 = w4.alloc (.cells #[.string ⟨#[]⟩, .string ⟨#[97]⟩, .string ⟨#[98]⟩, .string ⟨#[97, 58, 98]⟩, .string ⟨#[97, 98]⟩, .string ⟨#[120, 58, 121, 58, 122]⟩, .string ⟨#[58]⟩, .string ⟨#[116, 119, 101, 110, 116, 121, 45, 98, 121, 116, 101, 115, 45, 111, 102, 45, 116, 101, 120, 116]⟩, .string ⟨#[99]⟩] 9) := ⟨_, rfl⟩
    rw [← hw5] at R5 F5 P5 ⊢
    have x0 := R5.cell 0 _ rfl
    have x1 := R5.cell 1 _ rfl
    have x2 := R5.cell 2 _ rfl
    exact bodyPost_ret (v := vagg 4 0 ⟨#[97, 98]⟩) (by simp [results, Tryd.results25, go_sem, x0, x1, x2]) rfl (ValPostN.of hk' _ _ _ (.inr ⟨by unfold tyOf; rw [if_neg (by omega)], by unfold MayV; decide, by unfold In64; decide⟩) P5 F5)
  · go_wp2_with fail
    have R4 := three_blk HR2.out rfl (.int .i64 4) (.int .i64 0) (.string ⟨#[120, 58, 121, 58, 122]⟩)
    have F4 := (HF2.out.set_new (p := ⟨q, 0, none⟩) (Nat.le_of_eq HQ.out.symm) (.int .i64 4)).set_new (p := ⟨q, 1, none⟩) (Nat.le_of_eq HQ.out.symm) (.int .i64 0) |>.set_new (p := ⟨q, 2, none⟩) (Nat.le_of_eq HQ.out.symm) (.string ⟨#[120, 58, 121, 58, 122]⟩)
    have P4 := ((HPK.out.far (p := ⟨q, 0, none⟩) (Ne.symm hne) (.int .i64 4)).far (p := ⟨q, 1, none⟩) (Ne.symm hne) (.int .i64 0)).far (p := ⟨q, 2, none⟩) (Ne.symm hne) (.string ⟨#[120, 58, 121, 58, 122]⟩)
    obtain ⟨w4, hw4⟩ : ∃ w4, w4 = (((w2.setCell ⟨q, 0, none⟩ (.int .i64 4)).setCell ⟨q, 1, none⟩ (.int .i64 0)).setCell ⟨q, 2, none⟩ (.string ⟨#[120, 58, 121, 58, 122]⟩)) := ⟨_, rfl⟩
    rw [← hw4] at R4 F4 P4 ⊢
    have l5 := Later.new w4 (.cells #[.string ⟨#[]⟩, .string ⟨#[97]⟩, .string ⟨#[98]⟩, .string ⟨#[97, 58, 98]⟩, .string ⟨#[97, 98]⟩, .string ⟨#[120, 58, 121, 58, 122]⟩, .string ⟨#[58]⟩, .string ⟨#[116, 119, 101, 110, 116, 121, 45, 98, 121, 116, 101, 115, 45, 111, 102, 45, 116, 101, 120, 116]⟩, .string ⟨#[99]⟩] 9)
    have R5 := R4.later l5
    have F5 := F4.later l5
    have P5 := P4.later l5
    obtain ⟨w5, hw5⟩ : ∃ w5, w5 = w4.alloc (.cells #[.string ⟨#[]⟩, .string ⟨#[97]⟩, .string ⟨#[98]⟩, .string ⟨#[97, 58, 98]⟩, .string ⟨#[97, 98]⟩, .string ⟨#[120, 58, 121, 58, 122]⟩, .string ⟨#[58]⟩, .string ⟨#[116, 119, 101, 110, 116, 121, 45, 98, 121, 116, 101, 115, 45, 111, 102, 45, 116, 101, 120, 116]⟩, .string ⟨#[99]⟩] 9) := ⟨_, rfl⟩
    rw [← hw5] at R5 F5 P5 ⊢
    have x0 := R5.cell 0 _ rfl
    have x1 := R5.cell 1 _ rfl
    have x2 := R5.cell 2 _ rfl
    exact bodyPost_ret (v := vagg 4 0 ⟨#[120, 58, 121, 58, 122]⟩) (by simp [results, Tryd.results25, go_sem, x0, x1, x2]) rfl (ValPostN.of hk' _ _ _ (.inr ⟨by unfold tyOf; rw [if_neg (by omega)], by unfold MayV; decide, by unfold In64; decide⟩) P5 F5)
  · go_wp2_with fail
    have R4 := three_blk HR2.out rfl (.int .i64 4) (.int .i64 0) (.string ⟨#[58]⟩)
    have F4 := (HF2.out.set_new (p := ⟨q, 0, none⟩) (Nat.le_of_eq HQ.out.symm) (.int .i64 4)).set_new (p := ⟨q, 1, none⟩) (Nat.le_of_eq HQ.out.symm) (.int .i64 0) |>.set_new (p := ⟨q, 2, none⟩) (Nat.le_of_eq HQ.out.symm) (.string ⟨#[58]⟩)
    have P4 := ((HPK.out.far (p := ⟨q, 0, none⟩) (Ne.symm hne) (.int .i64 4)).far (p := ⟨q, 1, none⟩) (Ne.symm hne) (.int .i64 0)).far (p := ⟨q, 2, none⟩) (Ne.symm hne) (.string ⟨#[58]⟩)
    obtain ⟨w4, hw4⟩ : ∃ w4, w4 = (((w2.setCell ⟨q, 0, none⟩ (.int .i64 4)).setCell ⟨q, 1, none⟩ (.int .i64 0)).setCell ⟨q, 2, none⟩ (.string ⟨#[58]⟩)) := ⟨_, rfl⟩
    rw [← hw4] at R4 F4 P4 ⊢
    have l5 := Later.new w4 (.cells #[.string ⟨#[]⟩, .string ⟨#[97]⟩, .string ⟨#[98]⟩, .string ⟨#[97, 58, 98]⟩, .string ⟨#[97, 98]⟩, .string ⟨#[120, 58, 121, 58, 122]⟩, .string ⟨#[58]⟩, .string ⟨#[116, 119, 101, 110, 116, 121, 45, 98, 121, 116, 101, 115, 45, 111, 102, 45, 116, 101, 120, 116]⟩, .string ⟨#[99]⟩] 9)
    have R5 := R4.later l5
    have F5 := F4.later l5
    have P5 := P4.later l5
    obtain ⟨w5, hw5⟩ : ∃ w5, w5 = w4.alloc (.cells #[.string ⟨#[]⟩, .string ⟨#[97]⟩, .string ⟨#[98]⟩, .string ⟨#[97, 58, 98]⟩, .string ⟨#[97, 98]⟩, .string ⟨#[120, 58, 121, 58, 122]⟩, .string ⟨#[58]⟩, .string ⟨#[116, 119, 101, 110, 116, 121, 45, 98, 121, 116, 101, 115, 45, 111, 102, 45, 116, 101, 120, 116]⟩, .string ⟨#[99]⟩] 9) := ⟨_, rfl⟩
    rw [← hw5] at R5 F5 P5 ⊢
    have x0 := R5.cell 0 _ rfl
    have x1 := R5.cell 1 _ rfl
    have x2 := R5.cell 2 _ rfl
    exact bodyPost_ret (v := vagg 4 0 ⟨#[58]⟩) (by simp [results, Tryd.results25, go_sem, x0, x1, x2]) rfl (ValPostN.of hk' _ _ _ (.inr ⟨by unfold tyOf; rw [if_neg (by omega)], by unfold MayV; decide, by unfold In64; decide⟩) P5 F5)
  · go_wp2_with fail
    have R4 := three_blk HR2.out rfl (.int .i64 4) (.int .i64 0) (.string ⟨#[116, 119, 101, 110, 116, 121, 45, 98, 121, 116, 101, 115, 45, 111, 102, 45, 116, 101, 120, 116]⟩)
    have F4 := (HF2.out.set_new (p := ⟨q, 0, none⟩) (Nat.le_of_eq HQ.out.symm) (.int .i64 4)).set_new (p := ⟨q, 1, none⟩) (Nat.le_of_eq HQ.out.symm) (.int .i64 0) |>.set_new (p := ⟨q, 2, none⟩) (Nat.le_of_eq HQ.out.symm) (.string ⟨#[116, 119, 101, 110, 116, 121, 45, 98, 121, 116, 101, 115, 45, 111, 102, 45, 116, 101, 120, 116]⟩)
    have P4 := ((HPK.out.far (p := ⟨q, 0, none⟩) (Ne.symm hne) (.int .i64 4)).far (p := ⟨q, 1, none⟩) (Ne.symm hne) (.int .i64 0)).far (p := ⟨q, 2, none⟩) (Ne.symm hne) (.string ⟨#[116, 119, 101, 110, 116, 121, 45, 98, 121, 116, 101, 115, 45, 111, 102, 45, 116, 101, 120, 116]⟩)
    obtain ⟨w4, hw4⟩ : ∃ w4, w4 = (((w2.setCell ⟨q, 0, none⟩ (.int .i64 4)).setCell ⟨q, 1, none⟩ (.int .i64 0)).setCell ⟨q, 2, none⟩ (.string ⟨#[116, 119, 101, 110, 116, 121, 45, 98, 121, 116, 101, 115, 45, 111, 102, 45, 116, 101, 120, 116]⟩)) := ⟨_, rfl⟩
    rw [← hw4] at R4 F4 P4 ⊢
    have l5 := Later.new w4 (.cells #[.string ⟨#[]⟩, .string ⟨#[97]⟩, .string ⟨#[98]⟩, .string ⟨#[97, 58, 98]⟩, .string ⟨#[97, 98]⟩, .string ⟨#[120, 58, 121, 58, 122]⟩, .string ⟨#[58]⟩, .string ⟨#[116, 119, 101, 110, 116, 121, 45, 98, 121, 116, 101, 115, 45, 111, 102, 45, 116, 101, 120, 116]⟩, .string ⟨#[99]⟩] 9)
    have R5 := R4.later l5
    have F5 := F4.later l5
    have P5 := P4.later l5
    obtain ⟨w5, hw5⟩ : ∃ w5, w5 = w4.alloc (.cells #[.string ⟨#[]⟩, .string ⟨#[97]⟩, .string ⟨#[98]⟩, .string ⟨#[97, 58, 98]⟩, .string ⟨#[97, 98]⟩, .string ⟨#[120, 58, 121, 58, 122]⟩, .string ⟨#[58]⟩, .string ⟨#[116, 119, 101, 110, 116, 121, 45, 98, 121, 116, 101, 115, 45, 111, 102, 45, 116, 101, 120, 116]⟩, .string ⟨#[99]⟩] 9) := ⟨_, rfl⟩
    rw [← hw5] at R5 F5 P5 ⊢
    have x0 := R5.cell 0 _ rfl
    have x1 := R5.cell 1 _ rfl
    have x2 := R5.cell 2 _ rfl
    exact bodyPost_ret (v := vagg 4 0 ⟨#[116, 119, 101, 110, 116, 121, 45, 98, 121, 116, 101, 115, 45, 111, 102, 45, 116, 101, 120, 116]⟩) (by simp [results, Tryd.results25, go_sem, x0, x1, x2]) rfl (ValPostN.of hk' _ _ _ (.inr ⟨by unfold tyOf; rw [if_neg (by omega)], by unfold MayV; decide, by unfold In64; decide⟩) P5 F5)
  · go_wp2_with fail
    have R4 := three_blk HR2.out rfl (.int .i64 4) (.int .i64 0) (.string ⟨#[99]⟩)
    have F4 := (HF2.out.set_new (p := ⟨q, 0, none⟩) (Nat.le_of_eq HQ.out.symm) (.int .i64 4)).set_new (p := ⟨q, 1, none⟩) (Nat.le_of_eq HQ.out.symm) (.int .i64 0) |>.set_new (p := ⟨q, 2, none⟩) (Nat.le_of_eq HQ.out.symm) (.string ⟨#[99]⟩)
    have P4 := ((HPK.out.far (p := ⟨q, 0, none⟩) (Ne.symm hne) (.int .i64 4)).far (p := ⟨q, 1, none⟩) (Ne.symm hne) (.int .i64 0)).far (p := ⟨q, 2, none⟩) (Ne.symm hne) (.string ⟨#[99]⟩)
    obtain ⟨w4, hw4⟩ : ∃ w4, w4 = (((w2.setCell ⟨q, 0, none⟩ (.int .i64 4)).setCell ⟨q, 1, none⟩ (.int .i64 0)).setCell ⟨q, 2, none⟩ (.string ⟨#[99]⟩)) := ⟨_, rfl⟩
    rw [← hw4] at R4 F4 P4 ⊢
    have l5 := Later.new w4 (.cells #[.string ⟨#[]⟩, .string ⟨#[97]⟩, .string ⟨#[98]⟩, .string ⟨#[97, 58, 98]⟩, .string ⟨#[97, 98]⟩, .string ⟨#[120, 58, 121, 58, 122]⟩, .string ⟨#[58]⟩, .string ⟨#[116, 119, 101, 110, 116, 121, 45, 98, 121, 116, 101, 115, 45, 111, 102, 45, 116, 101, 120, 116]⟩, .string ⟨#[99]⟩] 9)
    have R5 := R4.later l5
    have F5 := F4.later l5
    have P5 := P4.later l5
    obtain ⟨w5, hw5⟩ : ∃ w5, w5 = w4.alloc (.cells #[.string ⟨#[]⟩, .string ⟨#[97]⟩, .string ⟨#[98]⟩, .string ⟨#[97, 58, 98]⟩, .string ⟨#[97, 98]⟩, .string ⟨#[120, 58, 121, 58, 122]⟩, .string ⟨#[58]⟩, .string ⟨#[116, 119, 101, 110, 116, 121, 45, 98, 121, 116, 101, 115, 45, 111, 102, 45, 116, 101, 120, 116]⟩, .string ⟨#[99]⟩] 9) := ⟨_, rfl⟩
    rw [← hw5] at R5 F5 P5 ⊢
    have x0 := R5.cell 0 _ rfl
    have x1 := R5.cell 1 _ rfl
    have x2 := R5.cell 2 _ rfl
    exact bodyPost_ret (v := vagg 4 0 ⟨#[99]⟩) (by simp [results, Tryd.results25, go_sem, x0, x1, x2]) rfl (ValPostN.of hk' _ _ _ (.inr ⟨by unfold tyOf; rw [if_neg (by omega)], by unfold MayV; decide, by unfold In64; decide⟩) P5 F5)

theorem value_anyN (t : Int) (g : Nat) (A : Option Addr) (n c k : Nat) (bs : List Nat) (w : World) (h : Pk w g A n c k) (hn : n ≤ 1000) (hk : k ≤ n) (hb : bs.length = n) (hr : Rd w g A (ints .u8 bs)) (h256 : ∀ x ∈ bs, x < 256) :
    Calls Tryd.prog 25 #[.pointer (some ⟨g, 0, none⟩), .int .i64 t] w (ValPostN t g A n c w) := by
  by_cases ht : 1 ≤ t ∧ t ≤ 3
  · obtain rfl | rfl | rfl : t = 1 ∨ t = 2 ∨ t = 3 := by omega
    · exact value_small g A n c k bs w h hn hk hb hr h256
    · exact value_int g A n c k bs w h hn hk hb hr h256
    · exact value_bool g A n c k bs w h hn hk hb hr h256
  · exact value_text t g A n c k bs w h hn hk hb hr h256 ht
end Go.Proofs.YtkdpjocglfephaaDoor

/- Walks of the laws' helper some. -/

namespace Go.Proofs.YtkdpjocglfephaaDoor
open Go.RowKit
set_option linter.unusedVariables false

def SomeInv (t : Int) (N g : Nat) (A : Option Addr) (n c : Nat) (w : World) (lv iv : Value) (wr : World) : Prop :=
  ∃ (l : List Val3) (L : Option Addr) (cl j k : Nat), lv = .slice L l.length cl ∧ iv = .int .i64 j ∧ j ≤ N ∧ l.length ≤ j ∧ k ≤ n ∧ OkL (tyOf t) l ∧ All64 l ∧ wr.ownsRow (g + 1) 26 3 (.slice L l.length cl) l.length (fl l) ∧ Pk wr g A n c k ∧ Later w wr
theorem SomeInv.mk {t : Int} {N g : Nat} {A : Option Addr} {n c : Nat} {w wr : World} (l : List Val3) (L : Option Addr) (m cl k : Nat) (i : Int) (j : Nat) (hm : m = l.length) (hi : i = (j : Int)) (hj : j ≤ N) (hlj : l.length ≤ j) (hk : k ≤ n) (ok : OkL (tyOf t) l) (a : All64 l) (o : wr.ownsRow (g + 1) 26 3 (.slice L m cl) m (fl l)) (p : Pk wr g A n c k) (lat : Later w wr) : SomeInv t N g A n c w (.slice L m cl) (.int .i64 i) wr := by
  subst hm hi
  exact ⟨l, L, cl, j, k, rfl, rfl, hj, hlj, hk, ok, a, o, p, lat⟩
end Go.Proofs.YtkdpjocglfephaaDoor
