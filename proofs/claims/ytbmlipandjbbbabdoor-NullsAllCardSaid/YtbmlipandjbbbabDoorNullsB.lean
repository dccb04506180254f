/- Walks of package nulls: check. -/
import Derived.Test.YtbmlipandjbbbabDoorNullsA
namespace Go.Proofs.YtbmlipandjbbbabDoor
open Go.RowKit
set_option linter.unusedVariables false

/-- A sentinel's variable holds a pointer to a block of its own. -/
def SentAt (w : World) (g : Nat) (a : Addr) : Prop := CellIs w ⟨g, 0, none⟩ (.iface 65 (.pointer (some a))) ∧ ∃ c t, Blk w a.block c t
theorem SentAt.later {w w' : World} {g : Nat} {a : Addr} (h : SentAt w g a) (l : Later w w') : SentAt w' g a := by
  obtain ⟨h1, c, t, h2⟩ := h
  exact ⟨h1.later l, c, t, h2.later l⟩
theorem SentAt.cell {w : World} {g : Nat} {a : Addr} (h : SentAt w g a) : w.cell? ⟨g, 0, none⟩ = some (.iface 65 (.pointer (some a))) := h.1
/-- The two sentinels of this layer. -/
def Sn (w : World) (aB aS : Addr) : Prop := SentAt w 0 aB ∧ SentAt w 1 aS ∧ aB ≠ aS
theorem Sn.later {w w' : World} {aB aS : Addr} (h : Sn w aB aS) (l : Later w w') : Sn w' aB aS := ⟨h.1.later l, h.2.1.later l, h.2.2⟩

/-- A call that tells an error that wraps a sentinel. -/
def WrapPost (a : Addr) (w : World) (e : Ending) (w' : World) : Prop :=
  ∃ pb, e = .returned (.iface 50 (.pointer (some ⟨pb, 0, none⟩))) ∧ CellIs w' ⟨pb, 0 + 2, none⟩ (.iface 65 (.pointer (some a))) ∧ Later w w'
theorem wrapPost_new (a : Addr) (w : World) (s : ByteArray) (p : Int) : WrapPost a w (.returned (.iface 50 (.pointer (some ⟨w.heap.size, 0, none⟩)))) (w.alloc (.cells #[.string s, .int .i64 p, .iface 65 (.pointer (some a))] 52)) :=
  ⟨w.heap.size, rfl, CellIs.new _ _ _ _ 2 _ rfl rfl, Later.new _ _⟩

/-- What nulls.Take takes. -/
def NullsOK (b : List Nat) (n : Nat) : Prop := b.length = (n + 7) / 8 ∧ cat 8 b < 2 ^ n

set_option maxRecDepth 100000 in
theorem check_arg (A : Option Addr) (m c : Nat) (n : Int) (aB aS : Addr) (w : World) (hs : Sn w aB aS) (h : n < 0 ∨ 1000 < n) :
    Calls Tryd.prog 14 #[.slice A m c, .int .i64 n] w (WrapPost aB w) := by
  have hg := hs.1.cell
  have HW := Lib.hid (fun s p => wrapPost_new aB w s p)
  have h2 : n < 0 ∨ (0 ≤ n ∧ 1000 < n) := by omega
  clear h hs
  rcases h2 with h | ⟨h, h2⟩
  all_goals
    go_enter Tryd.func14, Tryd.ntmps14
    go_wp2_with (go_at_call 19; refine (at_any _ _ _ _ _ rfl).mono ?_; rintro e w' ⟨rfl, rfl⟩)
    go_ret
    exact HW.out _ _
set_option maxRecDepth 100000 in
theorem check_len (A : Option Addr) (m c : Nat) (n : Nat) (aB aS : Addr) (w : World) (hs : Sn w aB aS) (h : n ≤ 1000) (hm : m ≠ (n + 7) / 8) :
    Calls Tryd.prog 14 #[.slice A m c, .int .i64 n] w (WrapPost aB w) := by
  have hg := hs.1.cell
  have HW := Lib.hid (fun s p => wrapPost_new aB w s p)
  have HSZ := Lib.hid (size_any (n : Int) w (by omega) (by omega))
  have hne : ((m : Int) == ((n : Int) + 7) / 8) = false := by simp; omega
  have hne' : ((m : Int) != ((n : Int) + 7) / 8) = true := by simp; omega
  clear hs hm
  go_enter Tryd.func14, Tryd.ntmps14
  go_wp2_with (first | (go_at_call 17; refine HSZ.out.mono ?_; rintro e w' ⟨rfl, rfl⟩) | (go_at_call 19; refine (at_any _ _ _ _ _ rfl).mono ?_; rintro e w' ⟨rfl, rfl⟩))
  go_ret
  exact HW.out _ _
set_option maxRecDepth 100000 in
theorem check_rest (A : Option Addr) (c : Nat) (b : List Nat) (n : Nat) (aB aS : Addr) (w : World) (hs : Sn w aB aS) (h : n ≤ 1000) (hm : b.length = (n + 7) / 8) (hr : Has w A (ints .u8 b)) (h256 : ∀ x ∈ b, x < 256) :
    Calls Tryd.prog 14 #[.slice A b.length c, .int .i64 n] w fun e w' => (cat 8 b < 2 ^ n → e = .returned .nilIface ∧ w = w') ∧ (¬ cat 8 b < 2 ^ n → WrapPost aS w e w') := by
  have hg := hs.2.1.cell
  have HW := Lib.hid (fun s p => wrapPost_new aS w s p)
  have HSZ := Lib.hid (size_any (n : Int) w (by omega) (by omega))
  have hend := ended_iff b n h256 hm
  have hne : ((b.length : Int) == ((n : Int) + 7) / 8) = true := by simp; omega
  have hne' : ((b.length : Int) != ((n : Int) + 7) / 8) = false := by simp; omega
  clear hs
  by_cases h8 : n % 8 = 0
  · have h8i : (n : Int) % 8 = 0 := by omega
    have hok : cat 8 b < 2 ^ n := by simpa [h8] using hend
    have HOK := Lib.hid hok
    clear hend hok h8 hm hr
    go_enter Tryd.func14, Tryd.ntmps14
    go_wp2_with (first | (go_at_call 17; refine HSZ.out.mono ?_; rintro e w' ⟨rfl, rfl⟩))
    go_ret
    exact ⟨fun _ => ⟨rfl, rfl⟩, fun h => absurd HOK.out h⟩
  · have hq : n / 8 < b.length := by omega
    obtain ⟨bb, off, hA, hbb, hc⟩ := hr.rd.at_ (k := n / 8) (by rw [ints_length]; exact hq)
    simp only [ints, List.getElem_map] at hc
    subst hA
    have hy256 := h256 _ (List.getElem_mem hq)
    rw [List.getD_eq_getElem?_getD, List.getElem?_eq_getElem hq, Option.getD_some] at hend
    obtain ⟨y, hy⟩ : ∃ y, y = b[n / 8] := ⟨_, rfl⟩
    rw [← hy] at hc hy256 hend
    obtain ⟨q, hqe⟩ : ∃ q, q = n / 8 := ⟨_, rfl⟩
    obtain ⟨t, hte⟩ : ∃ t, t = n % 8 := ⟨_, rfl⟩
    rw [← hqe] at hc hq
    rw [← hte] at hend
    have ht8 : t < 8 := by omega
    have hkq : (n : Int) / 8 = (q : Int) := by omega
    have hkt : (n : Int) % 8 = (t : Int) := by omega
    have ht0 : ((t : Int) != 0) = true := by simp; omega
    have ht0' : ((t : Int) == 0) = false := by simp; omega
    have hqi : (q : Int) < (b.length : Int) := by omega
    have hend2 : (y / 2 ^ t == 0) = decide (cat 8 b < 2 ^ n) := by
      rw [← hend]; simp [show ¬ t = 0 by omega]
    have HEND := Lib.hid hend2
    clear hend hend2 hy h8 hqe hte hm
    by_cases hz : y / 2 ^ t = 0
    · have hz' : (y : Int) / 2 ^ t = 0 := by
        have : (y : Int) / 2 ^ t = ((y / 2 ^ t : Nat) : Int) := by simp
        rw [this, hz]; rfl
      have hok : cat 8 b < 2 ^ n := by
        have := HEND.out
        rw [hz] at this
        exact of_decide_eq_true this.symm
      have HOK := Lib.hid hok
      clear hok
      go_enter Tryd.func14, Tryd.ntmps14
      go_wp2_with (first | (go_at_call 17; refine HSZ.out.mono ?_; rintro e w' ⟨rfl, rfl⟩))
      go_ret
      exact ⟨fun _ => ⟨rfl, rfl⟩, fun h => absurd HOK.out h⟩
    · have hz' : ((y : Int) / 2 ^ t == 0) = false := by
        have : (y : Int) / 2 ^ t = ((y / 2 ^ t : Nat) : Int) := by simp
        rw [this]; simp only [beq_eq_false_iff_ne]; omega
      have hz2 : ((y : Int) / 2 ^ t != 0) = true := by simpa using hz'
      have hno : ¬ cat 8 b < 2 ^ n := by
        have := HEND.out
        rw [show (y / 2 ^ t == 0) = false by simpa using hz] at this
        exact of_decide_eq_false this.symm
      have HNO := Lib.hid hno
      clear hno
      clear hz
      go_enter Tryd.func14, Tryd.ntmps14
      go_wp2_with (first | (go_at_call 17; refine HSZ.out.mono ?_; rintro e w' ⟨rfl, rfl⟩) | (go_at_call 19; refine (at_any _ _ _ _ _ rfl).mono ?_; rintro e w' ⟨rfl, rfl⟩))
      all_goals go_ret
      all_goals exact ⟨fun h => absurd h HNO.out, fun _ => HW.out _ _⟩
end Go.Proofs.YtbmlipandjbbbabDoor
