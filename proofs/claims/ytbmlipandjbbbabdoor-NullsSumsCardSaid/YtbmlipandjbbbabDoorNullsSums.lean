/- The walk of NullsSums. -/
import Derived.Test.YtbmlipandjbbbabDoorNullsD
namespace Go.Proofs.YtbmlipandjbbbabDoor
open Go.RowKit
set_option linter.unusedVariables false

set_option maxRecDepth 100000 in
theorem nullsSums_long (A : Option Addr) (n c : Nat) (at_ : Int) (aB aS : Addr) (w : World) (hs : Sn w aB aS) (h : 60 < n) :
    Calls Tryd.prog 5 #[.slice A n c, .int .u8 at_] w fun e w' => e = .returned (.bool true) ∧ Later w w' := by
  go_enter Tryd.func5, Tryd.ntmps5
  go_wp2_with fail
  refine (begun4_any aB aS w hs).mono ?_
  rintro e w1 ⟨rfl, l1⟩
  go_wp2_with fail
  go_ret
  exact ⟨rfl, l1⟩

theorem sum_parts (l : List Bool) (k : Nat) : l.count true = (l.take k).count true + (l.drop k).count true := by
  rw [← List.count_append, List.take_append_drop]

theorem count_q (A : Option Addr) (n c : Nat) (l : List Bool) (w : World) (m : Nat) (hn : n = l.length) (hr : Has w A (bools l)) (hl : l.length ≤ 1000000) :
    Calls Tryd.prog 13 #[.slice A n c] (w.drewN m) fun e w'' => e = .returned (.int .i64 (l.count true : Nat)) ∧ ∃ m', w'' = w.drewN m' :=
  Calls.quiet_of_same ((count_any A n c l (w.drewN m) hn (hr.later ((Later.refl w).drewN m)) hl).mono fun e w' h => ⟨h.1, h.2.symm⟩)

set_option maxRecDepth 100000 in
set_option maxHeartbeats 1000000 in
theorem nullsSums_walk (A : Option Addr) (c : Nat) (l : List Bool) (t : Nat) (aB aS : Addr) (w : World) (hs : Sn w aB aS) (hr : Has w A (bools l)) (hnil : A = none → c = 0) (hl : l.length ≤ 60) (hlc : l.length ≤ c) (ht : t < 256) :
    Calls Tryd.prog 5 #[.slice A l.length c, .int .u8 t] w fun e w' => e = .returned (.bool true) ∧ Later w w' := by
  obtain ⟨k, hk⟩ : ∃ k, k = t % (l.length + 1) := ⟨_, rfl⟩
  have hkl : k ≤ l.length := by have := Nat.mod_lt t (show 0 < l.length + 1 by omega); omega
  have hki : (t : Int) % ((l.length : Int) + 1) = (k : Int) := by rw [hk]; simp
  have hkc : (k : Int) ≤ (c : Int) := by omega
  have hkl' : (k : Int) ≤ (l.length : Int) := by omega
  have HNIL := Lib.hid hnil
  clear hk hnil
  go_enter Tryd.func5, Tryd.ntmps5
  go_wp2_with fail
  refine (begun4_any aB aS w hs).mono ?_
  rintro e w1 ⟨rfl, l1⟩
  go_wp2_with fail
  refine (nullsPut_any A l.length c l w1 rfl (hr.later l1) (by omega)).mono ?_
  rintro e w2 ⟨rfl, r2, l2⟩
  go_wp2_with fail
  refine (nullsTake_any (some ⟨w1.heap.size, 0, none⟩) _ ((l.length + 7) / 8) (packN l) l.length aB aS w2 (packN_length l).symm (hs.later (l1.trans l2)) (Has.row r2) (packN_lt l)).mono ?_
  intro e w3 h
  obtain ⟨g, rfl, hg, B3, l3⟩ := h.yes (takeN_put l (by omega))
  have L3 := (l1.trans l2).trans l3
  have R3 := hr.later L3
  have X3 := B3.hasB
  have HS := Lib.hid (sum_parts l k)
  have hsum : ((l.count true : Nat) : Int) = ((l.take k).count true : Nat) + ((l.drop k).count true : Nat) := by have := sum_parts l k; omega
  have ht1 : (l.take k).length = k := by rw [List.length_take]; omega
  clear h l1 l2 l3 hg r2 B3
  have hle1 : (l.take k).count true ≤ 1000000 := Nat.le_trans List.count_le_length (by omega)
  have hle2 : (l.drop k).count true ≤ 1000000 := Nat.le_trans List.count_le_length (by rw [List.length_drop]; omega)
  have hwr : IntKind.i64.wrap (((l.take k).count true : Nat) + ((l.drop k).count true : Nat) : Int) = ((l.take k).count true : Nat) + ((l.drop k).count true : Nat) := IntWalk.i64_in _ ⟨by omega, by omega⟩
  have HC4 := Lib.hid (fun n => count_q (some ⟨g, 0, none⟩) l.length l.length l w3 n rfl X3 (by omega))
  have HC1 := Lib.hid (fun n => count_q A l.length c l w3 n rfl R3 (by omega))
  by_cases hl0 : l = []
  · subst hl0
    obtain rfl : k = 0 := by simpa using hkl
    have HC2 := Lib.hid (fun n (A : Option Addr) c => count_q A 0 c [] w3 n rfl Has.nil_ (by decide))
    have HC3 := HC2
    rcases A with _ | a
    · obtain rfl : c = 0 := HNIL.out rfl
      go_wp2_with fail
      go_quiet ((first | (go_at_call 13; (with_reducible exact HC1.out _)) | (go_at_call 13; (with_reducible exact HC2.out _ _ _)) | (go_at_call 13; (with_reducible exact HC3.out _ _ _)) | (go_at_call 13; (with_reducible exact HC4.out _))))
      go_wp2_with fail
      go_ret
      exact ⟨rfl, L3.drewN _⟩
    · go_wp2_with fail
      go_quiet ((first | (go_at_call 13; (with_reducible exact HC1.out _)) | (go_at_call 13; (with_reducible exact HC2.out _ _ _)) | (go_at_call 13; (with_reducible exact HC3.out _ _ _)) | (go_at_call 13; (with_reducible exact HC4.out _))))
      go_wp2_with fail
      go_ret
      exact ⟨rfl, L3.drewN _⟩
  · obtain ⟨bb, off, rfl, hcl⟩ := R3.all (by simpa [bools] using hl0)
    have R3' := R3
    have HC2 := Lib.hid (fun n => count_q (some ⟨bb, off, none⟩) k c (l.take k) w3 n ht1.symm (by have := R3'.take k; rwa [bools_take] at this) (by omega))
    by_cases hck : c = k
    · have hlk : l.length = k := by omega
      have hd : l.drop k = [] := List.drop_of_length_le (by omega)
      have HC3 := Lib.hid (fun n => count_q (some ⟨bb, off, none⟩) 0 0 [] w3 n rfl Has.nil_ (by decide))
      rw [hd] at hsum
      clear hwr
      have hwr : IntKind.i64.wrap (((l.take k).count true : Nat) : Int) = ((l.take k).count true : Nat) := IntWalk.i64_in _ ⟨by omega, by omega⟩
      have HC1 := Lib.hid (fun n => count_q (some ⟨bb, off, none⟩) k c l w3 n hlk.symm R3' (by omega))
      have HC4 := Lib.hid (fun n => count_q (some ⟨g, 0, none⟩) k k l w3 n hlk.symm X3 (by omega))
      have hz : ((List.count true ([] : List Bool) : Nat) : Int) = 0 := rfl
      have hz0 : ((k : Int) == (k : Int)) = true := by simp
      subst hck
      clear hcl hd R3 R3' X3 ht1 hr hl0 hle1 hle2 hkl hlc
      go_wp2_with fail
      go_quiet ((first | (go_at_call 13; (with_reducible exact HC1.out _)) | (go_at_call 13; (with_reducible exact HC2.out _)) | (go_at_call 13; (with_reducible exact HC3.out _)) | (go_at_call 13; (with_reducible exact HC4.out _))))
      go_wp2_with fail
      go_ret
      exact ⟨rfl, L3.drewN _⟩
    · have hd1 : (l.drop k).length = l.length - k := List.length_drop
      have HC3 := Lib.hid (fun n => count_q (some ⟨bb, off + k, none⟩) (l.length - k) (c - k) (l.drop k) w3 n hd1.symm (by have := R3'.drop k; rwa [bools_drop] at this) (by omega))
      clear hcl hd1 R3 R3' X3 ht1 hr hl0
      go_wp2_with fail
      go_quiet ((first | (go_at_call 13; (with_reducible exact HC1.out _)) | (go_at_call 13; (with_reducible exact HC2.out _)) | (go_at_call 13; (with_reducible exact HC3.out _)) | (go_at_call 13; (with_reducible exact HC4.out _))))
      go_wp2_with fail
      go_ret
      exact ⟨rfl, L3.drewN _⟩
end Go.Proofs.YtbmlipandjbbbabDoor
