/- slices.SortFunc of none; slices.Clone at values; package dict: unlike. -/
import Derived.Test.YtfcedbhmbcbiaaaDoorDictK
import Derived.Lib.SliceRun
namespace Go.Proofs.YtfcedbhmbcbiaaaDoor
open Go.RowKit
set_option linter.unusedVariables false

set_option maxRecDepth 100000 in
theorem insert_none (A : Option Addr) (c : Nat) (f : Value) (w : World) : Calls Tryd.prog 60 #[.slice A 0 c, .int .i64 0, .int .i64 0, f] w fun e w' => e = .returned (.tuple #[]) ∧ w = w' := by
  go_enter Tryd.func60, Tryd.ntmps60
  go_wp2_with fail
  go_loopw [8] (fun iv wr => iv = .int .i64 1 ∧ w = wr) (fun _ _ => 0)
  case atStart => exact ⟨rfl, rfl⟩
  case round =>
    obtain ⟨rfl, rfl⟩ := hrel
    go_wp2_with fail
    go_end0
    exact ⟨rfl, rfl⟩
set_option maxRecDepth 100000 in
theorem pdq_none (A : Option Addr) (c : Nat) (lim : Int) (f : Value) (w : World) : Calls Tryd.prog 49 #[.slice A 0 c, .int .i64 0, .int .i64 0, .int .i64 lim, f] w fun e w' => e = .returned (.tuple #[]) ∧ w = w' := by
  go_enter Tryd.func49, Tryd.ntmps49
  go_wp2_with fail
  go_loopw [1, 2, 3, 10, 11] (fun a b l u v wr => a = .int .i64 0 ∧ b = .int .i64 0 ∧ l = .int .i64 lim ∧ u = .bool true ∧ v = .bool true ∧ w = wr) (fun _ _ _ _ _ _ => 0)
  case atStart => exact ⟨rfl, rfl, rfl, rfl, rfl, rfl⟩
  case round =>
    obtain ⟨rfl, rfl, rfl, rfl, rfl, rfl⟩ := hrel
    go_wp2_with fail
    refine (insert_none A c f _).mono ?_
    rintro e w' ⟨rfl, rfl⟩
    go_wp2_with fail
    first
      | exact bodyPost_ret (results_none _ _ _ _) rfl ⟨rfl, rfl⟩
      | exact bodyPost_ret (results_none _ _ (by rfl) (by rfl)) rfl ⟨rfl, rfl⟩
      | exact bodyPost_ret (v := .tuple #[]) (by simp [results, go_sem]) rfl ⟨rfl, rfl⟩
set_option maxRecDepth 100000 in
theorem sort_none (A : Option Addr) (c : Nat) (f : Value) (w : World) : Calls Tryd.prog 34 #[.slice A 0 c, f] w fun e w' => e = .returned (.tuple #[]) ∧ w = w' := by
  have hb := fun w' => Tryd.bits_Len 0 w' (by decide) (by decide)
  go_enter Tryd.func34, Tryd.ntmps34
  go_wp2_with (first
    | (go_at_call 50; refine (hb _).mono ?_; rintro e w' ⟨rfl, rfl⟩)
    | (go_at_call 49; refine (pdq_none A c _ f _).mono ?_; rintro e w' ⟨rfl, rfl⟩))
  go_end0
  exact ⟨rfl, rfl⟩

set_option maxRecDepth 100000 in
theorem compact_none (A : Option Addr) (c : Nat) (f : Value) (w : World) : Calls Tryd.prog 36 #[.slice A 0 c, f] w fun e w' => e = .returned (.slice A 0 c) ∧ w = w' := by
  go_enter Tryd.func36, Tryd.ntmps36
  go_wp2_with fail
  go_ret
  exact ⟨rfl, rfl⟩
set_option maxRecDepth 100000 in
theorem clone_any (A : Option Addr) (n c : Nat) (l : List Val3) (w : World) (hn : n = l.length) (hl : l.length ≤ 100000) (hr : Has w A (fl l)) :
    Calls Tryd.prog 33 #[.slice A n c] w fun e w' => ∃ B cap, e = .returned (.slice B n cap) ∧ w'.ownsRow w.heap.size 34 3 (.slice B n cap) n (fl l) ∧ Later w w' := by
  have q22 : ∀ (w : World) (a : Option Addr) (n c n' c' : Nat), (binOp .eql 25 (.slice a n c) (.slice none n' c')).run Tryd.prog w = .ok (.bool a.isNone) w := fun w a n c n' c' => Lib.run_eql_slice_nil w _ _ a n c n' c' Tryd.underlying25
  rcases A with _ | a
  · have h0 : l = [] := by
      rcases hr with h | ⟨_, _, h, _⟩
      · have h := congrArg List.length h
        rw [fl_length] at h
        have h : l.length * 3 = 0 := h
        exact List.eq_nil_of_length_eq_zero (by omega)
      · cases h
    subst h0
    have hn0 : n = 0 := hn
    clear hn hl
    subst hn0
    have qn : ∀ (w : World), (binOp .eql 25 (.slice none 0 c) (.slice none 0 0)).run Tryd.prog w = .ok (.bool true) w := fun w => q22 w none 0 c 0 0
    clear hr q22
    go_enter Tryd.func33, Tryd.ntmps33
    go_wp2_with fail
    go_ret
    exact ⟨none, 0, rfl, ownG_nil _ _ _ _, Later.refl _⟩
  · have l1 := Later.new w (.cells ([] : List Value).toArray 34)
    have OW := Lib.hid ((Blk.new w ([] : List Value).toArray 34 _ rfl).ownG (base := w.heap.size) (size := 3) (n := 0) (Nat.le_refl _) rfl (by decide))
    have HR := Lib.hid (hr.later l1)
    have HL1 := Lib.hid l1
    have HN := Lib.hid hn
    have HNN := Lib.hid (show (fl l).length = n * 3 by rw [fl_length, hn])
    have hn9 : n ≤ 100000 := by omega
    clear hr l1 hn hl
    go_enter Tryd.func33, Tryd.ntmps33
    go_wp2_with (at_builtin; refine wpList_append_g _ rfl (.tmp 5) (.tmp 6) 25 rfl w.heap.size 34 (vagg 0 0 ⟨#[]⟩) 3 32 Tryd.underlying25 info_v rfl (by decide) _ 0 [] rfl OW.out _ n c (fl l) rfl HR.out HNN.out (by intro h; cases h) (fl_one _) (by unfold maxLen; omega) (by omega) ?_ ?_; (exact HL1.out.size); intro A2 c2 w6 o2 g2 b2 n2; simp only [Nat.zero_add, List.nil_append] at o2; have HO2 := Lib.hid o2; have HB6 := Lib.hid (Later.of (HL1.out.below.trans b2)); clear o2 g2 b2 n2)
    go_ret
    exact ⟨A2, c2, by simp, HO2.out, HB6.out⟩

set_option maxRecDepth 100000 in
set_option maxHeartbeats 1000000 in
/-- The unlike values, rising. -/
theorem unlike_any (t : Int) (ht : 1 ≤ t ∧ t ≤ 4) (A : Option Addr) (n c : Nat) (l : List Val3) (w : World) (hn : n = l.length) (hl : l.length ≤ 1000) (hr : Has w A (fl l)) (ol : OkL t l) :
    Calls Tryd.prog 20 #[.slice A n c] w fun e w' => ∃ B m cap, e = .returned (.slice B m cap) ∧ m = (wordsOf l).length ∧ Has w' B (fl (wordsOf l)) ∧ Later w w' := by
  have HCL := Lib.hid (clone_any A n c l w hn (by omega) hr)
  by_cases h0 : n = 0
  · have hl0 : l = [] := List.eq_nil_of_length_eq_zero (by omega)
    subst h0
    subst hl0
    clear hn hl hr ol
    go_enter Tryd.func20, Tryd.ntmps20
    go_wp2_with fail
    refine HCL.out.mono ?_
    rintro e w1 ⟨B, cap, rfl, _, l1⟩
    go_wp2_with (first
      | (go_at_call 34; refine (sort_none B cap _ _).mono ?_; rintro e w' ⟨rfl, rfl⟩)
      | (go_at_call 36; refine (compact_none B cap _ _).mono ?_; rintro e w' ⟨rfl, rfl⟩))
    go_ret
    exact ⟨B, 0, cap, rfl, rfl, Has.nil_, l1⟩
  · have HN := Lib.hid hn
    have HOL := Lib.hid ol
    have HT := Lib.hid ht
    have hn9 : n ≤ 1000 := by omega
    clear hn hl hr ol ht
    go_enter Tryd.func20, Tryd.ntmps20
    go_wp2_with fail
    refine HCL.out.mono ?_
    rintro e w1 ⟨B, cap, rfl, own, l1⟩
    obtain ⟨g, hgB, hg, hglt, hcap⟩ : ∃ g, B = some ⟨g, 0, none⟩ ∧ w.heap.size ≤ g ∧ g < w1.heap.size ∧ n ≤ cap := by
      rcases own.2 with ⟨h1, h2⟩ | ⟨g, cap', cur, h1, hbg, hgc, hle, _⟩
      · exact absurd h2 h0
      · injection h1 with e1 e2 e3
        refine ⟨g, e1, hbg, ?_, by omega⟩
        rcases Nat.lt_or_ge g w1.heap.size with h' | h'
        · exact h'
        · rw [Array.getElem?_eq_none h'] at hgc; cases hgc
    subst hgB
    have HC1 := Lib.hid (cells3_own own hglt)
    have HL1 := Lib.hid l1
    have HS := Lib.hid (sortV_any g cap w.heap.size l w1 hg HC1.out (by have := HN.out; omega))
    rw [← HN.out] at HS
    have HG := Lib.hid hg
    clear own hglt l1 hg HCL
    go_wp2_with fail
    refine HS.out.mono ?_
    rintro e w2 ⟨rfl, d, hperm, hsort, hc2, b2⟩
    have hdn : n = d.length := by rw [hperm.length_eq]; exact HN.out
    have HW := Lib.hid (show unlN d n = wordsOf l by rw [hdn]; exact unlN_words HT.out HOL.out hperm (hsort.imp fun h => by omega))
    have HK := Lib.hid (compact_any g n cap w.heap.size d w2 hdn HG.out hc2 hcap (by omega))
    rw [HW.out] at HK
    have HB2 := Lib.hid (Later.of (HL1.out.below.trans b2))
    clear hperm hsort hc2 b2 HS hdn
    go_wp2_with fail
    refine HK.out.mono ?_
    rintro e w3 ⟨m, rfl, hm, hhas, b3⟩
    have HB3 := Lib.hid (Later.of (HB2.out.below.trans b3))
    have HHAS := Lib.hid hhas
    have HM := Lib.hid hm
    clear hhas b3 HK hm
    go_wp2_with fail
    go_ret
    exact ⟨_, m, cap, rfl, HM.out, HHAS.out, HB3.out⟩
end Go.Proofs.YtfcedbhmbcbiaaaDoor
