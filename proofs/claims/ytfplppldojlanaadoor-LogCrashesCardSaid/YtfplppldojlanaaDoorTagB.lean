/- The walks of package tag: read, Take; begun of law 20. -/
import Derived.Test.YtfplppldojlanaaDoorTagA
import Derived.Stop.IfaceNil
namespace Go.Proofs.YtfplppldojlanaaDoor
open Go.RowKit
set_option linter.unusedVariables false

/-- The sentinel of package tag. -/
def S20 (w : World) : Prop := ∃ a : Addr, w.cell? ⟨2, 0, none⟩ = some (.iface 131 (.pointer (some a)))
theorem S20.later {w w' : World} (h : S20 w) (l : Later w w') : S20 w' := h.elim fun a h => ⟨a, l.cell h⟩

set_option maxRecDepth 100000 in
theorem cloneB_any (bb off n c : Nat) (l : List Nat) (w : World) (hn : n = l.length) (hl : l.length ≤ 100000) (hr : Has w (some ⟨bb, off, none⟩) (ints .u8 l)) :
    Calls Tryd.prog 63 #[.slice (some ⟨bb, off, none⟩) n c] w fun e w' => ∃ B cap, e = .returned (.slice B n cap) ∧ w'.ownsRow w.heap.size 5 1 (.slice B n cap) n (ints .u8 l) ∧ (B = none → cap = 0) ∧ Later w w' := by
  have qn : (binOp .eql 24 (.slice (some ⟨bb, off, none⟩) n c) (.slice none 0 0)).run Tryd.prog w = .ok (.bool false) w := Lib.run_eql_slice_nil w _ _ _ n c 0 0 Tryd.underlying24
  have l1 := Later.new w (.cells ([] : List Value).toArray 5)
  have OW := Lib.hid ((Blk.new w ([] : List Value).toArray 5 _ rfl).ownG (base := w.heap.size) (size := 1) (n := 0) (Nat.le_refl _) rfl (by decide))
  have HR := Lib.hid (hr.later l1)
  have HL1 := Lib.hid l1
  have HN := Lib.hid hn
  have hn9 : n ≤ 100000 := by omega
  clear hr l1 hn hl
  go_enter Tryd.func63, Tryd.ntmps63
  go_wp2_with (at_builtin; refine wpList_append_rd _ rfl (.tmp 5) (.tmp 6) 24 rfl w.heap.size 5 (.int .u8 0) 1 Tryd.underlying24 info_u8 rfl _ 0 [] rfl OW.out _ (some ⟨bb, off, none⟩) n c (ints .u8 l) rfl HR.out.rd ?_ (by intro h; cases h) (ints_one _ _) ?_ ?_ ?_ ?_; (rw [ints_length]; exact HN.out); (unfold maxLen; omega); omega; (exact HL1.out.size); intro A2 c2 w6 o2 g2 b2 n2; simp only [Nat.zero_add, List.nil_append] at o2; have HO2 := Lib.hid o2; have HB6 := Lib.hid (Later.of (HL1.out.below.trans b2)); have HN2 := Lib.hid n2; clear o2 g2 b2 n2)
  go_ret
  exact ⟨A2, c2, by simp, HO2.out, HN2.out, HB6.out⟩

/-- What read tells. -/
def ReadT (a : Addr) (o : Option (List Nat)) (w : World) (e : Ending) (w' : World) : Prop :=
  ((o = none ∧ ∃ A n c pb, e = .returned (.tuple #[.slice A n c, .iface 86 (.pointer (some ⟨pb, 0, none⟩))]) ∧ CellIs w' ⟨pb, 0 + 2, none⟩ (.iface 131 (.pointer (some a)))) ∨
    ∃ A c l, o = some l ∧ e = .returned (.tuple #[.slice A l.length c, .nilIface]) ∧ Has w' A (ints .u8 l)) ∧ Later w w'

set_option maxRecDepth 100000 in
set_option maxHeartbeats 4000000 in
theorem tagRead_any (g s : Nat) (A : Option Addr) (n c : Nat) (b : List Nat) (a : Addr) (w : World) (hg : g < 4294967296) (hs : s < 4294967296) (hn : n = b.length) (hr : Has w A (ints .u8 b)) (h256 : ∀ x ∈ b, x < 256) (hb : b.length ≤ 1000) (hnc : n ≤ c) (hcm : c ≤ 9223372036854775807) (ha : w.cell? ⟨2, 0, none⟩ = some (.iface 131 (.pointer (some a)))) :
    Calls Tryd.prog 61 #[.int .u32 g, .int .u32 s, .slice A n c] w (ReadT a (takeT20 g s b) w) := by
  by_cases h128 : b.length = 128
  · obtain ⟨bb, off, rfl, hlt, hcell⟩ : ∃ bb off, A = some ⟨bb, off, none⟩ ∧ bb < w.heap.size ∧ w.cell? ⟨bb, off + 8, none⟩ = some (.int .u8 ((b[8]'(by omega) : Nat) : Int)) := by
      rcases hr with h | ⟨bb, off, h1, h2, h3⟩
      · have := congrArg List.length h
        rw [ints_length, h128] at this
        cases this
      · exact ⟨bb, off, h1, h2, h3 8 _ (ints_get .u8 b 8 (by omega))⟩
    obtain rfl : n = 128 := by omega
    obtain ⟨x, hx⟩ : ∃ x, x = b[8]'(by omega) := ⟨_, rfl⟩
    have hat : at8 b = x := by unfold at8; rw [List.getD_eq_getElem?_getD, List.getElem?_eq_getElem (by omega), hx]; rfl
    rw [← hx] at hcell
    have hx256 : x < 256 := by rw [hx]; exact h256 _ (List.getElem_mem _)
    have hxw : IntKind.i64.wrap (x : Int) = (x : Int) := IntWalk.i64_in _ ⟨by omega, by omega⟩
    by_cases h110 : x ≤ 110
    · have hd : decide ((110 : Int) < (x : Int)) = false := by simp; omega
      obtain ⟨l, hl⟩ : ∃ l, l = loadT b := ⟨_, rfl⟩
      have hll : l.length = x := by rw [hl, ← hat]; exact loadT_len h128 (by omega)
      have hld : Has w (some ⟨bb, off + 9, none⟩) (ints .u8 l) := by
        have h := (hr.drop 9).take x
        have e : ((ints .u8 b).drop 9).take x = ints .u8 l := by
          rw [hl]; unfold loadT; rw [hat]; simp [ints, List.map_take, List.map_drop]
        rwa [e] at h
      have HCL := Lib.hid (cloneB_any bb (off + 9) x (c - 9) l w hll.symm (by omega) hld)
      have ht : takeT20 g s b = if tagB g s l = b then some l else none := by
        unfold takeT20
        rw [← hl]
        by_cases he : tagB g s l = b
        · rw [if_pos ⟨h128, by omega, he⟩, if_pos he]
        · rw [if_neg (fun h => he h.2.2), if_neg he]
      have hp : putT20 g s l = some (tagB g s l) := if_pos (by omega)
      have hl256 : ∀ y ∈ l, y < 256 := fun y hy => by
        rw [hl] at hy
        exact h256 y (List.mem_of_mem_drop (List.mem_of_mem_take hy))
      have HTL := Lib.hid (tagB_lt (g := g) (s := s) (l := l) (by omega) hl256)
      have HTN := Lib.hid (tagB_len (g := g) (s := s) (l := l) (by omega))
      have HPP := Lib.hid hp
      have HTT := Lib.hid ht
      have HR := Lib.hid hr
      have H256 := Lib.hid h256
      have HLL := Lib.hid hll
      have hi1 : (0 : Int) ≤ (x : Int) := by omega
      have hi2 : 9 + (x : Int) ≤ (c : Int) := by omega
      have hi3 : (9 : Int) ≤ 9 + (x : Int) := by omega
      have hi4 : (9 : Int) + (x : Int) - 9 = (x : Int) := by omega
      have hi5 : (c : Int) - 9 = ((c - 9 : Nat) : Int) := by omega
      have hi6 : (9 : Int) ≤ (c : Int) := by omega
      have hsw : IntKind.i64.wrap (s : Int) = (s : Int) := IntWalk.i64_in _ ⟨by omega, by omega⟩
      have HA := Lib.hid (show CellIs w _ _ from ha)
      have HB8 := Lib.hid h128
      clear hl hll hld ht hp hl256 hr h256 hx hat ha hb hn h128
      go_enter Tryd.func61, Tryd.ntmps61
      go_wp2_with fail
      refine HCL.out.mono ?_
      rintro e w1 ⟨B1, c1, rfl, o1, n1, l1⟩
      have HH1 := Lib.hid (Has.own o1)
      have HP := Lib.hid (tagPut_any g s B1 x c1 l w1 hg hs HLL.out.symm HH1.out n1)
      have HL1 := Lib.hid l1
      clear o1 n1 l1 HCL hcell
      go_wp2_with fail
      refine HP.out.mono ?_
      intro e w2 h
      obtain ⟨A2, c2, rfl, o2, l2⟩ := h.yes HPP.out
      have HH2 := Lib.hid (Has.own o2)
      have HL2 := Lib.hid (HL1.out.trans l2)
      have HH1b := Lib.hid (HH1.out.later l2)
      clear h o2 l2 HP HH1 HL1
      by_cases he : tagB g s l = b
      · have HE := Lib.hid (bytesEq_yes A2 (some ⟨bb, off, none⟩) 128 128 c2 c b w2 HB8.out.symm HB8.out.symm (by have h := HH2.out; rwa [he] at h) (HR.out.later HL2.out))
        have ht := HTT.out
        rw [if_pos he] at ht
        have HT := Lib.hid ht
        clear ht he
        go_wp2_with fail
        refine HE.out.mono ?_
        rintro e w' ⟨rfl, rfl⟩
        go_wp2_with fail
        go_ret2
        rw [HT.out]
        refine ⟨.inr ⟨B1, c1, l, rfl, ?_, HH1b.out⟩, HL2.out⟩
        rw [HLL.out]; rfl
      · have HE := Lib.hid (bytesEq_no A2 (some ⟨bb, off, none⟩) 128 128 c2 c (tagB g s l) b w2 HTN.out.symm HB8.out.symm HH2.out (HR.out.later HL2.out) HTL.out H256.out he)
        have ht := HTT.out
        rw [if_neg he] at ht
        have HT := Lib.hid ht
        have hgs := (HA.out.later HL2.out).out
        clear ht he
        go_wp2_with fail
        refine HE.out.mono ?_
        rintro e w' ⟨rfl, rfl⟩
        go_wp2_with (go_at_call 31; refine (at_any _ _ _ _ _ rfl).mono ?_; rintro e w' ⟨rfl, rfl⟩)
        go_ret2
        rw [HT.out]
        exact ⟨.inl ⟨rfl, _, _, _, w2.heap.size, rfl, CellIs.new _ _ _ _ 2 _ rfl rfl⟩, HL2.out.alloc _⟩
    · have hd : decide ((110 : Int) < (x : Int)) = true := by simp; omega
      have ht : takeT20 g s b = none := if_neg (fun h => h110 (by rw [← hat]; exact h.2.1))
      rw [ht]
      clear hx hat ht h110 h128 hn hb hr h256
      go_enter Tryd.func61, Tryd.ntmps61
      go_wp2_with (go_at_call 31; refine (at_any _ _ _ _ _ rfl).mono ?_; rintro e w' ⟨rfl, rfl⟩)
      go_ret2
      exact ⟨.inl ⟨rfl, _, _, _, w.heap.size, rfl, CellIs.new _ _ _ _ 2 _ rfl rfl⟩, Later.new _ _⟩
  · have ht : takeT20 g s b = none := if_neg (fun h => h128 h.1)
    have hne : ((n : Int) == 128) = false := by rw [beq_eq_false_iff_ne]; omega
    rw [ht]
    clear ht h128 hn hb hr h256
    go_enter Tryd.func61, Tryd.ntmps61
    go_wp2_with (go_at_call 31; refine (at_any _ _ _ _ _ rfl).mono ?_; rintro e w' ⟨rfl, rfl⟩)
    go_ret2
    exact ⟨.inl ⟨rfl, _, _, _, w.heap.size, rfl, CellIs.new _ _ _ _ 2 _ rfl rfl⟩, Later.new _ _⟩

/-- What Take tells. -/
def TakesT (o : Option (List Nat)) (w : World) (e : Ending) (w' : World) : Prop :=
  ∃ (A : Option Addr) (c : Nat), e = .returned (.tuple #[.slice A (o.getD []).length c, .bool o.isSome]) ∧ Has w' A (ints .u8 (o.getD [])) ∧ Later w w'

set_option maxRecDepth 100000 in
set_option maxHeartbeats 1000000 in
theorem tagTake_any (g s : Nat) (A : Option Addr) (n c : Nat) (b : List Nat) (w : World) (hg : g < 4294967296) (hs : s < 4294967296) (hn : n = b.length) (hr : Has w A (ints .u8 b)) (h256 : ∀ x ∈ b, x < 256) (hb : b.length ≤ 1000) (hnc : n ≤ c) (hcm : c ≤ 9223372036854775807) (hs20 : S20 w) :
    Calls Tryd.prog 51 #[.int .u32 g, .int .u32 s, .slice A n c] w (TakesT (takeT20 g s b) w) := by
  obtain ⟨a, ha⟩ := hs20
  have HR := Lib.hid (tagRead_any g s A n c b a w hg hs hn hr h256 hb hnc hcm ha)
  have HA := Lib.hid (show CellIs w _ _ from ha)
  clear hn hr h256 hb hnc hcm ha
  go_enter Tryd.func51, Tryd.ntmps51
  go_wp2_with fail
  refine HR.out.mono ?_
  rintro e w1 ⟨⟨ho, A1, n1, c1, pb, rfl, hc⟩ | ⟨A1, c1, l, ho, rfl, hh⟩, l1⟩
  · have HI := Lib.hid (is_wrap_same pb 0 a w1 hc.out)
    have hgs := (HA.out.later l1).out
    have HO := Lib.hid ho
    clear hc ho HR
    go_wp2_with fail
    refine HI.out.mono ?_
    rintro e w' ⟨rfl, rfl⟩
    go_wp2_with fail
    go_ret2
    rw [HO.out]
    exact ⟨none, 0, rfl, .inl rfl, l1⟩
  · have HI := Lib.hid (is_nil a w1)
    have hgs := (HA.out.later l1).out
    have HO := Lib.hid ho
    have HH := Lib.hid hh
    clear ho hh HR
    go_wp2_with fail
    refine HI.out.mono ?_
    rintro e w' ⟨rfl, rfl⟩
    go_wp2_with fail
    go_ret2
    rw [HO.out]
    exact ⟨A1, c1, rfl, HH.out, l1⟩
end Go.Proofs.YtfplppldojlanaaDoor
