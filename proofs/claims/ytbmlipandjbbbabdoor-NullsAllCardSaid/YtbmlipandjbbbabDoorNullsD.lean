/- nulls.Take at all bytes; begun of law 4. -/
import Derived.Test.YtbmlipandjbbbabDoorNullsC
import Derived.Test.YtbmlipandjbbbabDoorStr
namespace Go.Proofs.YtbmlipandjbbbabDoor
open Go.RowKit
set_option linter.unusedVariables false

/-- Which bits bytes are. -/
def takeN (b : List Nat) (n : Int) : Option (List Bool) := if 0 ≤ n ∧ n ≤ 1000 ∧ b.length = (n.toNat + 7) / 8 ∧ cat 8 b < 2 ^ n.toNat then some (bitsL b n.toNat) else none
/-- What a call tells that takes bits. -/
def TakesN (o : Option (List Bool)) (w : World) (e : Ending) (w' : World) : Prop :=
  (o = none ∧ NoPost w e w') ∨ ∃ l, o = some l ∧ YesPost l w e w'
theorem TakesN.no {o : Option (List Bool)} {w w' : World} {e : Ending} (h : TakesN o w e w') (hn : o = none) : NoPost w e w' := by
  rcases h with ⟨_, h⟩ | ⟨l, h, _⟩
  · exact h
  · rw [hn] at h; cases h
theorem TakesN.yes {o : Option (List Bool)} {w w' : World} {e : Ending} {l : List Bool} (h : TakesN o w e w') (hs : o = some l) : YesPost l w e w' := by
  rcases h with ⟨h, _⟩ | ⟨l', h, k⟩
  · rw [hs] at h; cases h
  · rw [hs] at h; cases h; exact k
theorem nullsTake_any (A : Option Addr) (m c : Nat) (b : List Nat) (n : Int) (aB aS : Addr) (w : World) (hm : m = b.length) (hs : Sn w aB aS) (hr : Has w A (ints .u8 b)) (h256 : ∀ x ∈ b, x < 256) :
    Calls Tryd.prog 8 #[.slice A m c, .int .i64 n] w (TakesN (takeN b n) w) := by
  subst hm
  unfold takeN
  by_cases hn : 0 ≤ n ∧ n ≤ 1000
  · obtain ⟨k, rfl⟩ : ∃ k : Nat, n = (k : Int) := ⟨n.toNat, by omega⟩
    rw [show (k : Int).toNat = k from rfl]
    have hk : k ≤ 1000 := by omega
    by_cases hl : b.length = (k + 7) / 8
    · by_cases hc : cat 8 b < 2 ^ k
      · rw [if_pos ⟨hn.1, hn.2, hl, hc⟩]
        exact (take_yes A c b k aB aS w hs hk hl hr h256 hc).mono fun _ _ h => .inr ⟨_, rfl, h⟩
      · rw [if_neg (fun h => hc h.2.2.2)]
        exact (take_no aS A b.length c k aB aS w hs (.inr rfl) ((check_rest A c b k aB aS w hs hk hl hr h256).mono fun _ _ h => h.2 hc)).mono fun _ _ h => .inl ⟨rfl, h⟩
    · rw [if_neg (fun h => hl h.2.2.1)]
      exact (take_no aB A b.length c k aB aS w hs (.inl rfl) (check_len A b.length c k aB aS w hs hk hl)).mono fun _ _ h => .inl ⟨rfl, h⟩
  · rw [if_neg (fun h => hn ⟨h.1, h.2.1⟩)]
    exact (take_no aB A b.length c n aB aS w hs (.inl rfl) (check_arg A b.length c n aB aS w hs (by omega))).mono fun _ _ h => .inl ⟨rfl, h⟩
theorem takeN_put (l : List Bool) (h : l.length ≤ 1000) : takeN (packN l) l.length = some l := by
  unfold takeN
  have := pack_bits l
  rw [show ((l.length : Nat) : Int).toNat = l.length from rfl, if_pos ⟨by omega, by omega, packN_length l, by rw [this.1]; exact this.2⟩, bits_back]

theorem conv_str (A : Option Addr) (n c : Nat) (l : List Nat) (hn : n = l.length) (w : World) (B : Nat) (hr : Rd w B A (ints .u8 l)) :
    (convert 23 9 (.slice A n c)).run Tryd.prog w = .ok (.string (bstr l)) w :=
  run_bstr 23 5 9 Tryd.underlying23 Tryd.underlying5 Tryd.underlying9 A n c l hn w B hr
theorem litB (w : World) (l : List Bool) : Blk (w.alloc (.cells (bools l).toArray 4)) w.heap.size (bools l).toArray 4 := Blk.new _ _ _ _ rfl

set_option maxRecDepth 100000 in
set_option maxHeartbeats 1000000 in
theorem begun4_any (aB aS : Addr) (w : World) (hs : Sn w aB aS) : Calls Tryd.prog 6 #[] w fun e w' => e = .returned (.bool true) ∧ Later w w' := by
  obtain ⟨w1, hw1⟩ : ∃ w1 : World, w.alloc (.cells #[.bool true, .bool false, .bool true] 4) = w1 := ⟨_, rfl⟩
  have L1 : Later w w1 := hw1 ▸ Later.new _ _
  have V1 : Blk w1 w.heap.size (bools [true, false, true]).toArray 4 := hw1 ▸ Blk.new w _ _ _ rfl
  have HW := Lib.hid hw1
  have HP := Lib.hid (nullsPut_any (some ⟨w.heap.size, 0, none⟩) 3 3 [true, false, true] w1 rfl V1.hasB (by decide))
  clear hw1
  go_enter Tryd.func6, Tryd.ntmps6
  go_wp2_with fail
  rw [HW.out]
  refine HP.out.mono ?_
  rintro e w2 ⟨rfl, r2, l2⟩
  have ep : packN [true, false, true] = [5] := by decide
  rw [ep] at r2
  have L2 := L1.trans l2
  have R2 : Has w2 (some ⟨w1.heap.size, 0, none⟩) (ints .u8 [5]) := Has.row r2
  have HT := Lib.hid (nullsTake_any (some ⟨w1.heap.size, 0, none⟩) 1 1 [5] 3 aB aS w2 rfl (hs.later L2) R2 (by decide))
  clear HW HP V1 L1 l2 ep r2
  go_wp2_with fail
  refine HT.out.mono ?_
  intro e w3 h
  obtain ⟨g, rfl, hg, B3, l3⟩ := h.yes (l := [true, false, true]) (by decide)
  have L3 := L2.trans l3
  have R3 := R2.later l3
  have l4 := Later.new w3 (.cells #[.int .u8 8] 5)
  obtain ⟨w4, hw4⟩ : ∃ w4 : World, w3.alloc (.cells #[.int .u8 8] 5) = w4 := ⟨_, rfl⟩
  have R4 : Has w4 (some ⟨w3.heap.size, 0, none⟩) (ints .u8 [8]) := hw4 ▸ Has.lit w3 _ .u8 [8]
  rw [hw4] at l4
  have HW4 := Lib.hid hw4
  have L4 := L3.trans l4
  have HT2 := Lib.hid (nullsTake_any (some ⟨w3.heap.size, 0, none⟩) 1 1 [8] 3 aB aS w4 rfl (hs.later L4) R4 (by decide))
  clear HT L2 R2 h hw4
  go_wp2_with fail
  rw [HW4.out]
  refine HT2.out.mono ?_
  intro e w5 h
  obtain ⟨rfl, l5⟩ := h.no (by decide)
  have B5 := B3.later (l4.trans l5)
  have L5 := L4.trans l5
  have hcv := conv_str (some ⟨w1.heap.size, 0, none⟩) 1 1 [5] rfl w5 _ (R3.later (l4.trans l5))
  rw [show bstr [5] = (⟨#[5]⟩ : ByteArray) from rfl] at hcv
  have x0 := B5.cell 0 (.bool true) rfl
  have x1 := B5.cell 1 (.bool false) rfl
  have HCT := Lib.hid (count_any (some ⟨g, 0, none⟩) 3 3 [true, false, true] w5 rfl B5.hasB (by decide))
  rw [show ((List.count true [true, false, true] : Nat) : Int) = 2 from rfl] at HCT
  clear HW4 HT2 B3 R3 l4 L4 l5 R4 h L3
  go_wp2_with (go_at_call 13; refine HCT.out.mono ?_; rintro e w' ⟨rfl, rfl⟩)
  go_ret
  exact ⟨rfl, L5⟩
end Go.Proofs.YtbmlipandjbbbabDoor
