/- The walks of package tag: numbers, Put; the reference's PutTag. -/
import Derived.Test.YtfplppldojlanaaDoorTagM
import Derived.Test.YtfplppldojlanaaDoorAppZ
import Derived.Test.YtfplppldojlanaaDoorOwn
namespace Go.Proofs.YtfplppldojlanaaDoor
open Go.RowKit
set_option linter.unusedVariables false

set_option maxRecDepth 100000 in
set_option maxHeartbeats 2000000 in
theorem numbers_any (g s : Nat) (w : World) (hg : g < 4294967296) (hs : s < 4294967296) :
    Calls Tryd.prog 62 #[.int .u32 g, .int .u32 s] w (Makes (nums8 g s) w) := by
  have e1 : IntKind.u64.wrap (g : Int) = (g : Int) := by rw [IntKind.wrap_u64]; omega
  have e2 : IntKind.u64.wrap (s : Int) = (s : Int) := by rw [IntKind.wrap_u64]; omega
  go_enter Tryd.func62, Tryd.ntmps62
  go_wp2_with fail
  refine (high_makes g 4 (by omega) (by decide) w).mono ?_
  intro e w1 h
  obtain ⟨A1, c1, rfl, o1, b1, n1⟩ := h
  rw [topB_length] at o1 ⊢
  have HO1 := Lib.hid o1
  have l1 := Later.of b1
  have HL1 := Lib.hid l1
  clear o1 b1 n1 l1
  go_wp2_with fail
  refine (high_makes s 4 (by omega) (by decide) w1).mono ?_
  intro e w2 h
  obtain ⟨A2, c2, rfl, o2, b2, n2⟩ := h
  rw [topB_length] at o2 ⊢
  have HR2 := Lib.hid (Has.own o2)
  have HN2 := Lib.hid n2
  have HO2 := Lib.hid (own_later HO1.out (Later.of b2))
  have HL2 := Lib.hid (HL1.out.trans (Later.of b2))
  clear o2 b2 n2 HO1 HL1
  go_wp2_with (at_builtin; refine wpList_append_rd _ rfl (.tmp 7) (.tmp 10) 24 rfl w.heap.size 5 (.int .u8 0) 1 Tryd.underlying24 info_u8 rfl _ 4 (ints .u8 (topB g 4)) rfl HO2.out _ A2 4 c2 (ints .u8 (topB s 4)) rfl HR2.out ?_ HN2.out (ints_one _ _) ?_ ?_ ?_ ?_; (rw [ints_length, topB_length]); (unfold maxLen; omega); omega; (exact HL2.out.size); intro A3 c3 w3 o3 g3 b3 n3; have HO3 := Lib.hid o3; have HB3 := Lib.hid (HL2.out.below.trans b3); have HN3 := Lib.hid n3; clear o3 g3 b3 n3)
  go_ret
  refine ⟨A3, c3, ?_, ?_, HB3.out, HN3.out⟩
  · rw [nums8_len]; rfl
  · rw [nums8_len]
    have h := HO3.out
    rw [← ints_snoc] at h
    exact h

/-- What Put tells. -/
def PutsT (o : Option (List Nat)) (w : World) (e : Ending) (w' : World) : Prop :=
  ((o = none ∧ e = .returned (.tuple #[.slice none 0 0, .bool false])) ∨
    ∃ A c, ∃ l, o = some l ∧ l.length = 128 ∧ e = .returned (.tuple #[.slice A 128 c, .bool true]) ∧ w'.ownsRow w.heap.size 5 1 (.slice A 128 c) 128 (ints .u8 l)) ∧ Later w w'
theorem PutsT.no {o : Option (List Nat)} {w w' : World} {e : Ending} (h : PutsT o w e w') (hn : o = none) : e = .returned (.tuple #[.slice none 0 0, .bool false]) ∧ Later w w' := by
  obtain ⟨⟨_, h⟩ | ⟨A, c, l, h, _⟩, L⟩ := h
  · exact ⟨h, L⟩
  · rw [hn] at h; cases h
theorem PutsT.yes {o : Option (List Nat)} {w w' : World} {e : Ending} {l : List Nat} (h : PutsT o w e w') (hs : o = some l) : ∃ A c, e = .returned (.tuple #[.slice A 128 c, .bool true]) ∧ w'.ownsRow w.heap.size 5 1 (.slice A 128 c) 128 (ints .u8 l) ∧ Later w w' := by
  obtain ⟨⟨h, _⟩ | ⟨A, c, l', h, _, h1, h2⟩, L⟩ := h
  · rw [hs] at h; cases h
  · rw [hs] at h; cases h
    exact ⟨A, c, h1, h2, L⟩
theorem own_some {w : World} {base : Nat} {e : TypeId} {A : Option Addr} {n c : Nat} {xs : List Value} (h : w.ownsRow base e 1 (.slice A n c) n xs) (hn : 0 < n) : ∃ gb, A = some ⟨gb, 0, none⟩ := by
  rcases h.2 with ⟨h1, _⟩ | ⟨gb, _, _, h1, _⟩
  · injection h1 with _ h2 _; omega
  · injection h1 with h2 h3 h4; exact ⟨gb, h2⟩

set_option maxRecDepth 100000 in
theorem tagPut_long (g s : Nat) (A : Option Addr) (n c : Nat) (w : World) (h : 110 < n) :
    Calls Tryd.prog 57 #[.int .u32 g, .int .u32 s, .slice A n c] w fun e w' => e = .returned (.tuple #[.slice none 0 0, .bool false]) ∧ w = w' := by
  have hd : decide ((110 : Int) < (n : Int)) = true := by simp; omega
  go_enter Tryd.func57, Tryd.ntmps57
  go_wp2_with fail
  go_ret2
  exact ⟨rfl, rfl⟩

set_option maxRecDepth 100000 in
set_option maxHeartbeats 4000000 in
theorem tagPut_any (g s : Nat) (A : Option Addr) (n c : Nat) (l : List Nat) (w : World) (hg : g < 4294967296) (hs : s < 4294967296) (hn : n = l.length) (hr : Has w A (ints .u8 l)) (hnil : A = none → c = 0) :
    Calls Tryd.prog 57 #[.int .u32 g, .int .u32 s, .slice A n c] w (PutsT (putT20 g s l) w) := by
  by_cases h110 : l.length ≤ 110
  · have hp : putT20 g s l = some (tagB g s l) := if_pos h110
    rw [hp]
    have e1 : IntKind.u8.wrap (n : Int) = (n : Int) := by rw [IntKind.wrap_u8]; omega
    have HR := Lib.hid hr
    have HN := Lib.hid hn
    have HNIL := Lib.hid hnil
    have hn9 : n ≤ 110 := by omega
    have hlt : ¬ (110 : Int) < (n : Int) := by omega
    have hd : decide ((110 : Int) < (n : Int)) = false := by simp; omega
    obtain ⟨N, hN⟩ : ∃ N, 8 + 1 + n = N := ⟨_, rfl⟩
    obtain ⟨K, hK⟩ : ∃ K, K = 111 - n := ⟨_, rfl⟩
    have HN8 := Lib.hid hN
    have HK := Lib.hid hK
    have HSUB := Lib.hid (show (120 : Int) - (N : Int) = (K : Int) by omega)
    have HNK := Lib.hid (show N + K = 120 by omega)
    have HK0 := Lib.hid (show 0 < K by omega)
    clear hp hr hn hnil h110 hN hK
    go_enter Tryd.func57, Tryd.ntmps57
    go_wp2_with fail
    refine (numbers_any g s w hg hs).mono ?_
    intro e w1 h
    obtain ⟨A1, c1, rfl, o1, b1, n1⟩ := h
    rw [nums8_len] at o1 ⊢
    have HO1 := Lib.hid o1
    have HL1 := Lib.hid (Later.of b1)
    clear o1 b1 n1 hd
    have hsub := HSUB.out
    go_wp2_with (first
      | (at_builtin; refine wpList_append_rd _ rfl (.tmp 14) (.tmp 18) 24 rfl w.heap.size 5 (.int .u8 0) 1 Tryd.underlying24 info_u8 rfl _ 8 (ints .u8 (nums8 g s)) rfl (own_later HO1.out (Later.new _ _)) _ _ 1 1 (ints .u8 [n]) rfl (rd_lit w1 _ .u8 [n] _ rfl) ?_ ?_ (ints_one _ _) ?_ ?_ ?_ ?_; rfl; (intro h; cases h); (unfold maxLen; omega); omega; (exact Nat.le_trans HL1.out.size (by simp)); intro A2 c2 w2 o2 g2 b2 n2; have HO2 := Lib.hid o2; have HL2 := Lib.hid (Later.of ((HL1.out.alloc _).below.trans b2)); clear o2 g2 b2 n2)
      | (at_builtin; refine wpList_append_rd _ rfl (.tmp 20) (.tmp 21) 24 rfl w.heap.size 5 (.int .u8 0) 1 Tryd.underlying24 info_u8 rfl _ (8 + 1) (ints .u8 (nums8 g s) ++ ints .u8 [n]) rfl HO2.out _ A n c (ints .u8 l) rfl (HR.out.later HL2.out).rd ?_ HNIL.out (ints_one _ _) ?_ ?_ ?_ ?_; (rw [ints_length]; exact HN.out); (unfold maxLen; omega); omega; (exact HL2.out.size); intro A3 c3 w3 o3 g3 b3 n3; rw [HN8.out] at o3 ⊢; obtain ⟨gb, rfl⟩ := own_some o3 (by have := HN8.out; omega); have HO3 := Lib.hid o3; have HL3 := Lib.hid (Later.of (HL2.out.below.trans b3)); clear o3 g3 b3 n3)
      | (at_builtin; refine wpList_append_zeros _ rfl (.tmp 23) (.tmp 26) 24 3 rfl w.heap.size 5 Tryd.underlying24 Tryd.underlying3 info_u8 gb N c3 _ rfl HO3.out K rfl HK0.out (by have := HNK.out; omega) HL3.out.size ?_; intro A4 c4 w4 o4 b4 n4; rw [HNK.out] at o4 ⊢; have HO4 := Lib.hid o4; have HL4 := Lib.hid (Later.of (HL3.out.below.trans b4)); clear o4 b4 n4))
    refine (numbers_any g s w4 hg hs).mono ?_
    intro e w5 h
    obtain ⟨A5, c5, rfl, o5, b5, n5⟩ := h
    rw [nums8_len] at o5 ⊢
    have HR5 := Lib.hid (Has.own o5)
    have HN5 := Lib.hid n5
    have HO5 := Lib.hid (own_later HO4.out (Later.of b5))
    have HL5 := Lib.hid (HL4.out.trans (Later.of b5))
    clear o5 b5 n5 hsub
    go_wp2_with (at_builtin; refine wpList_append_rd _ rfl (.tmp 28) (.tmp 31) 24 rfl w.heap.size 5 (.int .u8 0) 1 Tryd.underlying24 info_u8 rfl _ 120 (ints .u8 (nums8 g s) ++ ints .u8 [n] ++ ints .u8 l ++ ints .u8 (List.replicate K 0)) rfl HO5.out _ A5 8 c5 (ints .u8 (nums8 g s)) rfl HR5.out ?_ HN5.out (ints_one _ _) ?_ ?_ ?_ ?_; (rw [ints_length, nums8_len]); (unfold maxLen; omega); omega; (exact HL5.out.size); intro A6 c6 w6 o6 g6 b6 n6; have HO6 := Lib.hid o6; have HL6 := Lib.hid (Later.of (HL5.out.below.trans b6)); clear o6 g6 b6 n6)
    go_ret2
    refine ⟨.inr ⟨A6, c6, _, rfl, ?_, rfl, ?_⟩, HL6.out⟩
    · exact tagB_len (by have := HN.out; omega)
    · have h := HO6.out
      have e : ints .u8 (nums8 g s) ++ ints .u8 [n] ++ ints .u8 l ++ ints .u8 (List.replicate K 0) ++ ints .u8 (nums8 g s) = ints .u8 (tagB g s l) := by
        rw [← ints_snoc, ← ints_snoc, ← ints_snoc, ← ints_snoc]
        unfold tagB tagHead
        rw [← HN.out, ← HK.out]
        simp
      rw [e] at h
      exact h
  · have hp : putT20 g s l = none := if_neg h110
    rw [hp]
    refine (tagPut_long g s A n c w (by omega)).mono ?_
    rintro e w' ⟨rfl, rfl⟩
    exact ⟨.inl ⟨rfl, rfl⟩, Later.refl _⟩
end Go.Proofs.YtfplppldojlanaaDoor
