/- The walk of change.Rows: how many rows, or none. -/
import Derived.Test.YtphiggjgapaaiaaDoorChgR
namespace Go.Proofs.YtphiggjgapaaiaaDoor
open Go.RowKit
set_option linter.unusedVariables false

/-- What one row comes to. -/
def RowR (ok : Bool) (w : World) (e : Ending) (w' : World) : Prop := (ok = true → ∃ l, RowOk l w e w') ∧ (ok = false → RowNo w e w')
def RowsR (ok : Nat → Bool) (n : Nat) (w : World) (e : Ending) (w' : World) : Prop :=
  ((∀ i, i < n → ok i = true) → ∃ A c, e = .returned (.tuple #[.slice A n c, .bool true])) ∧ ((∃ i, i < n ∧ ok i = false) → e = .returned (.tuple #[.slice none 0 0, .bool false])) ∧ Later w w'
/-- Where the loop stands. -/
def RwI (ok : Nat → Bool) (n : Nat) (w : World) (cv iv : Value) (wr : World) : Prop :=
  ∃ (k m : Nat) (A : Option Addr) (c : Nat) (cs : List Value), cv = .slice A m c ∧ m = k ∧ iv = .int .i64 k ∧ k ≤ n ∧ wr.ownsRow w.heap.size 31 1 (.slice A m c) m cs ∧ (∀ i, i < k → ok i = true) ∧ Later w wr
theorem RwI.mk {ok : Nat → Bool} {n : Nat} {w wr : World} (y : Int) (k m : Nat) (A : Option Addr) (c : Nat) (cs : List Value) (hm : m = k) (hy : y = (k : Int)) (hk : k ≤ n) (ho : wr.ownsRow w.heap.size 31 1 (.slice A m c) m cs) (hall : ∀ i, i < k → ok i = true) (l : Later w wr) : RwI ok n w (.slice A m c) (.int .i64 y) wr := by
  subst hy; exact ⟨k, m, A, c, cs, rfl, hm, rfl, hk, ho, hall, l⟩

set_option maxRecDepth 100000 in
set_option maxHeartbeats 4000000 in
theorem chRows_any (V L : Option Addr) (vn vc n lc : Nat) (last kind col : Int) (nm : ByteArray) (ty v0 v1 : Int) (v2 : ByteArray) (sep : Nat) (N : Int) (ss : List SlV) (ok : Nat → Bool) (w : World) (hn : n = ss.length) (hl : n ≤ 1000) (hr : RowsAt w L ss)
    (hrow : ∀ i (h : i < ss.length) W, Later w W → Calls Tryd.prog 8 #[.agg #[.slice V vn vc, .int .i64 last], chg kind col nm ty v0 v1 v2 sep N, .slice ss[i].a ss[i].l.length ss[i].c] W (RowR (ok i) W)) :
    Calls Tryd.prog 10 #[.agg #[.slice V vn vc, .int .i64 last], chg kind col nm ty v0 v1 v2 sep N, .slice L n lc] w (RowsR ok n w) := by
  obtain ⟨h0, hh0⟩ : ∃ x, w.heap.size = x := ⟨_, rfl⟩
  obtain ⟨w2, hw2⟩ : ∃ x : World, (w.alloc (.cells #[.slice V vn vc, .int .i64 last] 27)).alloc (.cells #[.int .i64 kind, .int .i64 col, .string nm, .int .i64 ty, .int .i64 v0, .int .i64 v1, .string v2, .int .u8 sep, .int .i64 N] 35) = x := ⟨_, rfl⟩
  have l2 : Later w w2 := hw2 ▸ (Later.new w _).alloc _
  have bs : Blk w2 h0 #[.slice V vn vc, .int .i64 last] 27 := hw2 ▸ (Blk.new w _ _ _ hh0.symm).later (Later.new _ _)
  have bc : Blk w2 (h0 + 1) #[.int .i64 kind, .int .i64 col, .string nm, .int .i64 ty, .int .i64 v0, .int .i64 v1, .string v2, .int .u8 sep, .int .i64 N] 35 := hw2 ▸ Blk.new _ _ _ _ (by simp; omega)
  have HW2 := Lib.hid hw2
  have HBS := Lib.hid bs
  have HBC := Lib.hid bc
  have HR := Lib.hid hr
  have HN := Lib.hid hn
  have HROW := Lib.hid hrow
  have HI0 := Lib.hid (RwI.mk (ok := ok) (n := n) (w := w2) (wr := w2) 0 0 0 none 0 [] rfl rfl (Nat.zero_le _) (World.ownsRow_nil _ _ _ _) (fun i h => absurd h (Nat.not_lt_zero _)) (Later.refl _))
  have HL2 := Lib.hid l2
  clear hw2 l2 bs bc hr hn hrow
  go_enter Tryd.func10, Tryd.ntmps10
  go_wp2_with fail
  rw [HW2.out]
  go_loopw [8, 15] (fun cv iv wr => RwI ok n w2 cv iv wr) (fun _ i _ => n - (intOf i).toNat)
  case atStart => exact HI0.out
  case round =>
    obtain ⟨k, m, A, c, cs, rfl, rfl, rfl, hk, ho, hall, lat2⟩ := hrel
    have lat := HL2.out.trans lat2
    have HO := Lib.hid ho
    have HALL := Lib.hid hall
    have HLAT := Lib.hid lat
    have HLAT2 := Lib.hid lat2
    by_cases hlt : m < n
    · have hks : m < ss.length := by have := HN.out; omega
      obtain ⟨rb, ro, hA, cr, _⟩ := (HR.out.later lat).get m hks
      subst hA
      have bs := HBS.out.later lat2
      have bc := HBC.out.later lat2
      have a0 := bs.cell 0 _ rfl
      have a1 := bs.cell 1 _ rfl
      have d0 := bc.cell 0 _ rfl
      have d1 := bc.cell 1 _ rfl
      have d2 := bc.cell 2 _ rfl
      have d3 := bc.cell 3 _ rfl
      have d4 := bc.cell 4 _ rfl
      have d5 := bc.cell 5 _ rfl
      have d6 := bc.cell 6 _ rfl
      have d7 := bc.cell 7 _ rfl
      have d8 := bc.cell 8 _ rfl
      have HC := Lib.hid (HROW.out m hks wr lat)
      generalize ss[m].a = ra at cr HC
      generalize ss[m].c = rc at cr HC
      generalize ss[m].l.length = rl at cr HC
      have hmi : (m : Int) < (n : Int) := by omega
      clear bs bc lat lat2 ho hall HI0
      go_wp2_with fail
      refine HC.out.mono ?_
      intro e w3 h
      cases hok : ok m with
      | true =>
        obtain ⟨l, A3, c3, rfl, _, _, l3⟩ := h.1 hok
        generalize l.length = ln
        have HL3 := Lib.hid (HLAT.out.trans l3)
        have HL3b := Lib.hid (HLAT2.out.trans l3)
        have HO3 := Lib.hid (own_later HO.out l3)
        have HST := Lib.hid (show ∀ i, i < m + 1 → ok i = true from fun i hi => by
          rcases Nat.lt_or_ge i m with h' | h'
          · exact HALL.out i h'
          · obtain rfl : i = m := by omega
            exact hok)
        clear h l3 hok HC a0 a1 d0 d1 d2 d3 d4 d5 d6 d7 d8 cr
        go_wp2_with (at_builtin; go_loud (refine wpList_append_x _ rfl (.tmp 28) (.tmp 30) 39 rfl w2.heap.size 31 _ 1 24 Tryd.underlying39 info_row rfl (by decide) _ m cs rfl (own_later HO3.out (Later.new w3 _)) _ 0 1 1 [.slice A3 ln c3] rfl (Blk.new w3 [Value.slice A3 ln c3].toArray 31 _ rfl).has rfl (by simp [Value.oneCell']) (by unfold maxLen; omega) (by omega) (by have h1 := HL3b.out.size; simp; omega) ?_; intro A4 c4 w4 o4 g4 b4 hat hnl; have HO4 := Lib.hid o4; have HL4b := Lib.hid (show Later w2 w4 from Later.of ((HL3b.out.alloc _).below.trans b4)); clear o4 g4 b4 hat hnl))
        go_roundw
        all_goals first
          | exact RwI.mk _ (m + 1) _ _ _ _ (by omega) (by omega) hlt HO4.out HST.out HL4b.out
          | (simp [intOf]; done)
          | (simp [intOf]; omega)
          | trace_state
      | false =>
        obtain ⟨rfl, l3⟩ := h.2 hok
        have HL3 := Lib.hid (HLAT.out.trans l3)
        have HX := Lib.hid (show ∃ i, i < n ∧ ok i = false from ⟨m, hlt, hok⟩)
        clear h l3 hok HC
        go_wp2_with fail
        go_ret2
        exact ⟨(fun h => by obtain ⟨i, h1, h2⟩ := HX.out; rw [h i h1] at h2; cases h2), fun _ => rfl, HL3.out⟩
    · have hmn : m = n := by omega
      have HX := Lib.hid (show ∀ i, i < n → ok i = true from fun i hi => hall i (by omega))
      have HM := Lib.hid hmn
      clear hmn lat lat2 ho hall HI0
      go_wp2_with fail
      go_ret2
      refine ⟨fun _ => ⟨A, c, ?_⟩, fun h => ?_, HLAT.out⟩
      · rw [← HM.out]; rfl
      · obtain ⟨i, h1, h2⟩ := h
        rw [HX.out i h1] at h2; cases h2
end Go.Proofs.YtphiggjgapaaiaaDoor
