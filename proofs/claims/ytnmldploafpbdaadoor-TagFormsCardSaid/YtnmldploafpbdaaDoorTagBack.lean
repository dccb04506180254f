/- The walks of begun and TagBack, of law 20. -/
import Derived.Test.YtnmldploafpbdaaDoorTagB
import Derived.Lib.SlBytesConst
namespace Go.Proofs.YtnmldploafpbdaaDoor
open Go.RowKit
set_option linter.unusedVariables false

theorem wrap_u32' (x : Int) : IntKind.u32.wrap x = x % 4294967296 := by
  simp [IntKind.wrap, IntKind.bits, IntKind.signed]
def tb1 : List Nat := tagB 1 2 [120]
theorem tb1_len : tb1.length = 128 := tagB_len (by decide)
theorem tb1_lt : ∀ x ∈ tb1, x < 256 := tagB_lt (by decide) (by decide)
theorem Has.litF20 (w : World) (t : TypeId) (k : IntKind) (l : List Nat) (fz : Nat × Nat) : Has (w.alloc (.cells (ints k l).toArray t fz)) (some ⟨w.heap.size, 0, none⟩) (ints k l) :=
  .inr ⟨w.heap.size, 0, rfl, by simp, fun i v hv => by rw [Nat.zero_add, cell_of_row _ w.heap.size i (ints k l).toArray t fz (heap_alloc_new w _)]; simpa using hv⟩
theorem tb1_yes : takeT20 1 2 tb1 = some [120] := takeT20_put (by decide)
theorem tb1_no : takeT20 1 3 tb1 = none := takeT20_other (by decide) (by decide)
theorem tb1_put : putT20 1 2 [120] = some tb1 := rfl
theorem bstr_x : bstr [120] = ⟨#[120]⟩ := rfl

set_option maxRecDepth 100000 in
set_option maxHeartbeats 2000000 in
theorem begun20_any (w : World) (hs : S20 w) : Calls Tryd.prog 22 #[] w fun e w' => e = .returned (.bool true) ∧ Later w w' := by
  have l1 := Later.new w (.cells (ints .u8 [120]).toArray 5 (1, 2))
  have kc := fun (w : World) (C : Array Value) (n c : Nat) => Lib.run_convert_bytes_const (P := Tryd.prog) w 39 5 C n c Tryd.underlying39 Tryd.underlying5
  have HP := Lib.hid (tagPut_any 1 2 (some ⟨w.heap.size, 0, none⟩) 1 1 [120] _ (by decide) (by decide) rfl (Has.litF20 w 5 .u8 [120] (1, 2)) (by intro h; cases h))
  have HL := Lib.hid l1
  have HS := Lib.hid hs
  clear l1 hs
  go_enter Tryd.func22, Tryd.ntmps22
  go_wp2_with fail
  refine HP.out.mono ?_
  clear kc
  intro e w2 h
  obtain ⟨A, c, rfl, o2, l2⟩ := h.yes tb1_put
  have HH := Lib.hid (Has.own o2)
  have HC := Lib.hid (own_cap o2)
  have HM := Lib.hid (own_capmax o2)
  have HL2 := Lib.hid (HL.out.trans l2)
  clear h o2 l2 HP HL
  have HT := Lib.hid (tagTake_any 1 2 A 128 c tb1 w2 (by decide) (by decide) tb1_len.symm HH.out tb1_lt (by rw [tb1_len]; decide) HC.out HM.out (HS.out.later HL2.out))
  rw [tb1_yes] at HT
  go_wp2_with fail
  refine HT.out.mono ?_
  rintro e w3 ⟨X, cx, rfl, hx, l3⟩
  have HX := Lib.hid (show Has w3 X (ints .u8 [120]) from hx)
  have HL3 := Lib.hid (HL2.out.trans l3)
  have HH3 := Lib.hid (HH.out.later l3)
  have hl1 : ((some [120] : Option (List Nat)).getD []).length = 1 := rfl
  have hl2 : (some [120] : Option (List Nat)).isSome = true := rfl
  rw [hl1, hl2]
  clear hx l3 HT HL2 HH hl1 hl2
  have HT := Lib.hid (tagTake_any 1 3 A 128 c tb1 w3 (by decide) (by decide) tb1_len.symm HH3.out tb1_lt (by rw [tb1_len]; decide) HC.out HM.out (HS.out.later HL3.out))
  rw [tb1_no] at HT
  go_wp2_with fail
  refine HT.out.mono ?_
  rintro e w4 ⟨Y, cy, rfl, _, l4⟩
  have HL4 := Lib.hid (HL3.out.trans l4)
  have hX4 := HX.out.later l4
  have cv := conv_str X 1 cx [120] rfl w4 _ hX4
  rw [bstr_x] at cv
  have hl1 : ((none : Option (List Nat)).getD []).length = 0 := rfl
  have hl2 : (none : Option (List Nat)).isSome = false := rfl
  rw [hl1, hl2]
  obtain ⟨bb, off, rfl, c8, c9, c127⟩ : ∃ bb off, A = some ⟨bb, off, none⟩ ∧ w4.cell? ⟨bb, off + 8, none⟩ = some (.int .u8 1) ∧ w4.cell? ⟨bb, off + 9, none⟩ = some (.int .u8 120) ∧ w4.cell? ⟨bb, off + 127, none⟩ = some (.int .u8 2) := by
    rcases HH3.out.later l4 with h | ⟨bb, off, h1, h2, h3⟩
    · have := congrArg List.length h
      rw [ints_length, tb1_len] at this
      cases this
    · exact ⟨bb, off, h1, h3 8 _ rfl, h3 9 _ rfl, h3 127 _ rfl⟩
  clear l4 hX4 HT HH3 HX HC HM HL3 hl1 hl2
  go_wp2_with fail
  go_ret
  exact ⟨rfl, HL4.out⟩

set_option maxRecDepth 100000 in
theorem tagBack_long (g s : Int) (A : Option Addr) (n c : Nat) (mo ne : Int) (w : World) (hs : S20 w) (h : 150 < n) :
    Calls Tryd.prog 8 #[.int .u32 g, .int .u32 s, .slice A n c, .int .u8 mo, .int .u8 ne] w fun e w' => e = .returned (.bool true) ∧ Later w w' := by
  have HB := Lib.hid (begun20_any w hs)
  have hd : decide ((150 : Int) < (n : Int)) = true := by simp; omega
  clear hs h
  go_enter Tryd.func8, Tryd.ntmps8
  go_wp2_with fail
  refine HB.out.mono ?_
  rintro e w1 ⟨rfl, l1⟩
  go_wp2_with fail
  go_ret
  exact ⟨rfl, l1⟩

set_option maxRecDepth 100000 in
set_option maxHeartbeats 4000000 in
theorem tagBack_walk (g s : Nat) (A : Option Addr) (n c : Nat) (l : List Nat) (mo ne : Nat) (w : World) (hs : S20 w) (hg : g < 4294967296) (hsq : s < 4294967296) (hmo : mo < 256) (hne : ne < 256) (hn : n = l.length) (hn150 : n ≤ 150) (hr : Has w A (ints .u8 l)) (h256 : ∀ x ∈ l, x < 256) (hnil : A = none → c = 0) :
    Calls Tryd.prog 8 #[.int .u32 g, .int .u32 s, .slice A n c, .int .u8 mo, .int .u8 ne] w fun e w' => e = .returned (.bool true) ∧ Later w w' := by
  have HB := Lib.hid (begun20_any w hs)
  have HS := Lib.hid hs
  have HR := Lib.hid hr
  have HN := Lib.hid hn
  have H256 := Lib.hid h256
  have HNIL := Lib.hid hnil
  have hd : decide ((150 : Int) < (n : Int)) = false := by simp; omega
  clear hs hr hn h256 hnil
  go_enter Tryd.func8, Tryd.ntmps8
  go_wp2_with fail
  refine HB.out.mono ?_
  rintro e w1 ⟨rfl, l1⟩
  have HL1 := Lib.hid l1
  have HP := Lib.hid (tagPut_any g s A n c l w1 hg hsq HN.out (HR.out.later l1) HNIL.out)
  clear l1 HB
  by_cases h110 : n ≤ 110
  · have hp : putT20 g s l = some (tagB g s l) := if_pos (by rw [← HN.out]; exact h110)
    have ht : takeT20 g s (tagB g s l) = some l := takeT20_put (by rw [← HN.out]; exact h110)
    have hd2 : decide ((n : Int) ≤ 110) = true := by simp; omega
    have HLT := Lib.hid (tagB_lt (g := g) (s := s) (l := l) (by rw [← HN.out]; exact h110) H256.out)
    have HLN := Lib.hid (tagB_len (g := g) (s := s) (l := l) (by rw [← HN.out]; exact h110))
    obtain ⟨g', hg'⟩ : ∃ g', g' = (g + mo) % 4294967296 := ⟨_, rfl⟩
    obtain ⟨s', hs'⟩ : ∃ s', s' = (s + ne) % 4294967296 := ⟨_, rfl⟩
    have e1 : IntKind.u32.wrap ((g : Int) + (mo : Int)) = (g' : Int) := by rw [wrap_u32']; omega
    have e2 : IntKind.u32.wrap ((s : Int) + (ne : Int)) = (s' : Int) := by rw [wrap_u32']; omega
    have e3 : IntKind.u32.wrap (mo : Int) = (mo : Int) := by rw [wrap_u32']; omega
    have e4 : IntKind.u32.wrap (ne : Int) = (ne : Int) := by rw [wrap_u32']; omega
    have hgl : g' < 4294967296 := by omega
    have hsl : s' < 4294967296 := by omega
    have ht2 : takeT20 g' s' (tagB g s l) = if mo = 0 ∧ ne = 0 then some l else none := by
      by_cases hz : mo = 0 ∧ ne = 0
      · rw [if_pos hz]
        have hh1 : g' = g := by omega
        have hh2 : s' = s := by omega
        rw [hh1, hh2]; exact ht
      · rw [if_neg hz]
        refine takeT20_other (fun h => hz ?_) (by rw [← HN.out]; exact h110)
        have := nums8_inj hgl hsl hg hsq h
        omega
    have HT1 := Lib.hid ht
    have HT2 := Lib.hid ht2
    have HPP := Lib.hid hp
    clear hp ht ht2 hg' hs' h110
    go_wp2_with fail
    refine HP.out.mono ?_
    intro e w2 h
    obtain ⟨B, cb, rfl, o2, l2⟩ := h.yes HPP.out
    have HH := Lib.hid (Has.own o2)
    have HC := Lib.hid (own_cap o2)
    have HM := Lib.hid (own_capmax o2)
    have HL2 := Lib.hid (HL1.out.trans l2)
    clear h o2 l2 HP HL1
    have HT := Lib.hid (tagTake_any g s B 128 cb (tagB g s l) w2 hg hsq HLN.out.symm HH.out HLT.out (by rw [HLN.out]; decide) HC.out HM.out (HS.out.later HL2.out))
    rw [HT1.out] at HT
    go_wp2_with fail
    refine HT.out.mono ?_
    rintro e w3 ⟨X, cx, rfl, hx, l3⟩
    have HX := Lib.hid (show Has w3 X (ints .u8 l) from hx)
    have HL3 := Lib.hid (HL2.out.trans l3)
    have HH3 := Lib.hid (HH.out.later l3)
    have hl1 : ((some l : Option (List Nat)).getD []).length = n := HN.out.symm
    have hl2 : (some l : Option (List Nat)).isSome = true := rfl
    rw [hl1, hl2]
    clear hx l3 HT HL2 HH hl1 hl2
    have HTB := Lib.hid (tagTake_any g' s' B 128 cb (tagB g s l) w3 hgl hsl HLN.out.symm HH3.out HLT.out (by rw [HLN.out]; decide) HC.out HM.out (HS.out.later HL3.out))
    rw [HT2.out] at HTB
    go_wp2_with fail
    refine HTB.out.mono ?_
    rintro e w4 ⟨Y, cy, rfl, _, l4⟩
    have HL4 := Lib.hid (HL3.out.trans l4)
    have cv1 := conv_str X n cx l HN.out w4 _ (HX.out.later l4)
    have cv2 := conv_str A n c l HN.out w4 _ (HR.out.later HL4.out)
    obtain ⟨S, hS⟩ : ∃ S, S = bstr l := ⟨_, rfl⟩
    rw [← hS] at cv1 cv2
    have hss : (S.toList == S.toList) = true := by simp
    clear l4 HTB HH3 HX HC HM HL3 hS HR HT1 HT2
    by_cases hm : mo = 0
    · by_cases hn0 : ne = 0
      · subst hm hn0
        have hl1 : (if (0 : Nat) = 0 ∧ (0 : Nat) = 0 then some l else none : Option (List Nat)) = some l := if_pos ⟨rfl, rfl⟩
        rw [hl1]
        have hl2 : (some l : Option (List Nat)).isSome = true := rfl
        rw [hl2]
        clear hl1 hl2
        go_wp2_with fail
        go_ret
        exact ⟨rfl, HL4.out⟩
      · subst hm
        have hl1 : (if (0 : Nat) = 0 ∧ ne = 0 then some l else none : Option (List Nat)) = none := if_neg fun h => hn0 h.2
        rw [hl1]
        have hl2 : (none : Option (List Nat)).isSome = false := rfl
        rw [hl2]
        have hz : ((ne : Int) == 0) = false := by rw [beq_eq_false_iff_ne]; omega
        clear hl1 hl2
        go_wp2_with fail
        go_ret
        exact ⟨rfl, HL4.out⟩
    · have hl1 : (if mo = 0 ∧ ne = 0 then some l else none : Option (List Nat)) = none := if_neg fun h => hm h.1
      rw [hl1]
      have hl2 : (none : Option (List Nat)).isSome = false := rfl
      rw [hl2]
      have hz : ((mo : Int) == 0) = false := by rw [beq_eq_false_iff_ne]; omega
      clear hl1 hl2
      go_wp2_with fail
      go_ret
      exact ⟨rfl, HL4.out⟩
  · have hp : putT20 g s l = none := if_neg (by rw [← HN.out]; exact h110)
    have hd2 : decide ((n : Int) ≤ 110) = false := by simp; omega
    have HPP := Lib.hid hp
    clear hp h110
    go_wp2_with fail
    refine HP.out.mono ?_
    intro e w2 h
    obtain ⟨rfl, l2⟩ := h.no HPP.out
    have HL2 := Lib.hid (HL1.out.trans l2)
    clear h l2 HP
    go_wp2_with fail
    go_ret
    exact ⟨rfl, HL2.out⟩
end Go.Proofs.YtnmldploafpbdaaDoor
