/- The contracts of bits (the program's, the reference's) as the codecs ask them. -/
import Derived.Test.YtfcedbhmbcbiaaaGreatDoorBitsG
import Derived.Test.YtfcedbhmbcbiaaaGreatDoorRefBitsB
import Derived.Test.YtfcedbhmbcbiaaaGreatDoorLists
import Derived.Test.YtfcedbhmbcbiaaaGreatDoorPackM
namespace Go.Proofs.YtfcedbhmbcbiaaaGreatDoor
open Go.RowKit
set_option linter.unusedVariables false

/-- What a call tells that gives numbers, or a no. -/
def PutsU (o : Option (List Nat)) (w : World) (e : Ending) (w' : World) : Prop :=
  ((o = none ∧ e = .returned (.tuple #[.slice none 0 0, .bool false])) ∨
    ∃ l A c, o = some l ∧ e = .returned (.tuple #[.slice A l.length c, .bool true]) ∧ Has w' A (ints .u64 l)) ∧ Later w w'
theorem PutsU.no {o : Option (List Nat)} {w w' : World} {e : Ending} (h : PutsU o w e w') (hn : o = none) : e = .returned (.tuple #[.slice none 0 0, .bool false]) ∧ Later w w' := by
  obtain ⟨⟨_, h⟩ | ⟨l, A, c, h, _⟩, L⟩ := h
  · exact ⟨h, L⟩
  · rw [hn] at h; cases h
theorem PutsU.yes {o : Option (List Nat)} {w w' : World} {e : Ending} {l : List Nat} (h : PutsU o w e w') (hs : o = some l) : ∃ A c, e = .returned (.tuple #[.slice A l.length c, .bool true]) ∧ Has w' A (ints .u64 l) ∧ Later w w' := by
  obtain ⟨⟨h, _⟩ | ⟨l', A, c, h, h1, h2⟩, L⟩ := h
  · rw [hs] at h; cases h
  · rw [hs] at h; cases h; exact ⟨A, c, h1, h2, L⟩

theorem bitsPut_o (A : Option Addr) (n c : Nat) (l : List Nat) (z : Int) (k : Nat) (w : World) (hn : n = l.length) (hz : z = (k : Int)) (hr : Has w A (ints .u64 l)) (hl : l.length ≤ 1000) (h64 : ∀ x ∈ l, x < 18446744073709551616) (hk : k ≤ 64) (hw : widL l ≤ k) :
    Calls Tryz.prog 35 #[.slice A n c, .int .i64 z] w (PutsB (some (putBits l k)) w) := by
  refine (put_yes A n c l z k _ _ w hn hz rfl rfl hr hl h64 hk hw).mono ?_
  rintro e w' ⟨rfl, row, b⟩
  have hm := putBits_len l k
  have hb : l.length * k ≤ 64000 := Nat.le_trans (Nat.mul_le_mul hl hk) (by decide)
  exact ⟨.inr ⟨_, some ⟨w.heap.size, 0, none⟩, _, rfl, by rw [hm], Has.row row, by omega, by omega, fun h => by cases h⟩, Later.of b⟩
theorem refBitsPut_o (A : Option Addr) (n c : Nat) (l : List Nat) (z : Int) (k : Nat) (w : World) (hn : n = l.length) (hz : z = (k : Int)) (hr : Has w A (ints .u64 l)) (hl : l.length ≤ 1000) (h64 : ∀ x ∈ l, x < 18446744073709551616) (hk : k ≤ 64) (hw : widL l ≤ k) :
    Calls Tryz.prog 41 #[.slice A n c, .int .i64 z] w (PutsB (some (putBits l k)) w) := by
  refine (refBitsPut_yes A n c l z k _ _ w hn hz rfl rfl hr hl h64 hk hw).mono ?_
  rintro e w' ⟨rfl, row, b⟩
  have hm := putBits_len l k
  have hb : l.length * k ≤ 64000 := Nat.le_trans (Nat.mul_le_mul hl hk) (by decide)
  exact ⟨.inr ⟨_, some ⟨w.heap.size, 0, none⟩, _, rfl, by rw [hm], Has.row row, by omega, by omega, fun h => by cases h⟩, Later.of b⟩
theorem bitsTake_o (A : Option Addr) (m c : Nat) (b : List Nat) (zn zk : Int) (n k : Nat) (w : World) (hm : m = b.length) (hzn : zn = (n : Int)) (hzk : zk = (k : Int)) (hr : Has w A (ints .u8 b)) (h256 : ∀ x ∈ b, x < 256) (hb : b.length ≤ 1000000) (hc : b.length ≤ c) :
    Calls Tryz.prog 46 #[.slice A m c, .int .i64 zn, .int .i64 zk] w (PutsU (takeBits b n k) w) := by
  unfold takeBits
  by_cases h : n ≤ 1000 ∧ k ≤ 64 ∧ b.length = (n * k + 7) / 8 ∧ cat 8 b < 2 ^ (n * k)
  · rw [if_pos h]
    refine (take_yes A m c b zn zk n k _ w hm hzn hzk rfl hr h256 hc h.1 h.2.1 h.2.2.1 h.2.2.2).mono ?_
    rintro e w' ⟨rfl, row, bb⟩
    exact ⟨.inr ⟨_, some ⟨w.heap.size, 0, none⟩, n, rfl, by rw [chop_length], Has.row row⟩, Later.of bb⟩
  · rw [if_neg h]
    refine (take_no A m c b zn zk w _ hm hr h256 hb (notOK n k hzn hzk h)).mono ?_
    rintro e w' ⟨rfl, rfl⟩
    exact ⟨.inl ⟨rfl, rfl⟩, Later.refl _⟩
theorem refBitsTake_o (A : Option Addr) (m c : Nat) (b : List Nat) (zn zk : Int) (n k : Nat) (w : World) (hm : m = b.length) (hzn : zn = (n : Int)) (hzk : zk = (k : Int)) (hr : Has w A (ints .u8 b)) (h256 : ∀ x ∈ b, x < 256) (hb : b.length ≤ 1000000) :
    Calls Tryz.prog 72 #[.slice A m c, .int .i64 zn, .int .i64 zk] w (PutsU (takeBits b n k) w) := by
  subst hm hzn hzk
  unfold takeBits
  by_cases h1 : n ≤ 1000 ∧ k ≤ 64
  · by_cases h2 : b.length = (n * k + 7) / 8
    · by_cases h3 : cat 8 b < 2 ^ (n * k)
      · rw [if_pos ⟨h1.1, h1.2, h2, h3⟩]
        refine (refBitsTake_body true A c b n k w hr h256 h1.1 h1.2 h2 (by simp [h3])).mono ?_
        rintro e w' ⟨hy, _, bb⟩
        obtain ⟨rfl, row⟩ := hy rfl
        exact ⟨.inr ⟨_, some ⟨w.heap.size, 0, none⟩, n, rfl, by rw [chop_length], Has.row row⟩, Later.of bb⟩
      · rw [if_neg fun h => h3 h.2.2.2]
        refine (refBitsTake_body false A c b n k w hr h256 h1.1 h1.2 h2 (by simp [h3])).mono ?_
        rintro e w' ⟨_, hn, bb⟩
        obtain rfl := hn rfl
        exact ⟨.inl ⟨rfl, rfl⟩, Later.of bb⟩
    · rw [if_neg fun h => h2 h.2.2.1]
      refine (refBitsTake_len A b.length c n k w h1.1 h1.2 h2 hb).mono ?_
      rintro e w' ⟨rfl, rfl⟩
      exact ⟨.inl ⟨rfl, rfl⟩, Later.refl _⟩
  · rw [if_neg fun h => h1 ⟨h.1, h.2.1⟩]
    refine (refBitsTake_arg A b.length c n k w (by omega)).mono ?_
    rintro e w' ⟨rfl, rfl⟩
    exact ⟨.inl ⟨rfl, rfl⟩, Later.refl _⟩
theorem width_o (A : Option Addr) (n c : Nat) (l : List Nat) (w : World) (hn : n = l.length) (hr : Has w A (ints .u64 l)) (hl : l.length ≤ 1000000) (h64 : ∀ x ∈ l, x < 18446744073709551616) :
    Calls Tryz.prog 61 #[.slice A n c] w fun e w' => e = .returned (.int .i64 (widL l : Nat)) ∧ w = w' := width_at A n c l _ w _ hn rfl hr hl h64
theorem refWidth_o (A : Option Addr) (n c : Nat) (l : List Nat) (w : World) (hn : n = l.length) (hr : Has w A (ints .u64 l)) (hl : l.length ≤ 1000000) (h64 : ∀ x ∈ l, x < 18446744073709551616) :
    Calls Tryz.prog 43 #[.slice A n c] w fun e w' => e = .returned (.int .i64 (widL l : Nat)) ∧ w = w' := ref_Width A n c l _ w _ hn rfl hr hl h64
end Go.Proofs.YtfcedbhmbcbiaaaGreatDoor
