/- The document's Meet, Rest. -/
import Derived.Test.YtlfmmhbaphnifaaRRRRGreatDoorSel
namespace Go.Proofs.YtlfmmhbaphnifaaRRRRGreatDoor
open Go.RowKit
set_option linter.unusedVariables false

theorem in_step {l : List Int} {v : Int} {k : Nat} (hk : k < l.length) (h : v ∉ l.take k) (hv : l[k] ≠ v) : v ∉ l.take (k + 1) := by
  rw [List.take_succ_eq_append_getElem hk, List.mem_append, List.mem_singleton]
  rintro (h1 | h1)
  · exact h h1
  · exact hv h1.symm
set_option maxRecDepth 100000 in
theorem in_any (A : Option Addr) (n c : Nat) (l : List Int) (v : Int) (w : World) (hn : n = l.length) (hl : n ≤ 100000) (hr : Has w A (zin l)) :
    Calls Tryz.prog 43 #[.slice A n c, .int .i64 v] w fun e w' => e = .returned (.bool (decide (v ∈ l))) ∧ w = w' := by
  have HN := Lib.hid hn
  have HR := Lib.hid hr
  clear hn hr
  go_enter Tryz.func43, Tryz.ntmps43
  go_wp2_with fail
  go_loopw [5] (fun i wr => ∃ j : Nat, j ≤ n ∧ i = .int .i64 j ∧ v ∉ l.take j ∧ w = wr) (fun i _ => n - (intOf i).toNat)
  case atStart => exact ⟨0, Nat.zero_le _, rfl, by simp, rfl⟩
  case round =>
    obtain ⟨j, hj, rfl, hno, rfl⟩ := hrel
    have HNO := Lib.hid hno
    clear hno
    by_cases hlt : j < n
    · have hjl : j < l.length := by have := HN.out; omega
      obtain ⟨b, off, hA, ck⟩ := HR.out.zat j hjl
      subst hA
      have HST := Lib.hid (fun h => in_step hjl HNO.out h)
      have HIN := Lib.hid (List.getElem_mem hjl)
      generalize l[j] = x at ck HST HIN
      by_cases h1 : x = v
      · have e1 : (x == v) = true := by simp [h1]
        have HY := Lib.hid (show decide (v ∈ l) = true by rw [← h1]; simpa using HIN.out)
        clear h1 HST
        go_wp2_with fail
        go_ret
        rw [HY.out]
        exact ⟨rfl, rfl⟩
      · have e1 : (x == v) = false := by simp [h1]
        have HS2 := Lib.hid (HST.out h1)
        clear h1 HST
        go_wp2_with fail
        go_roundw
        all_goals first
          | exact ⟨j + 1, hlt, by go_num, HS2.out, by first | rfl | trivial⟩
          | (simp [intOf]; omega)
    · have HY := Lib.hid (show decide (v ∈ l) = false by
        have h := HNO.out
        rw [List.take_of_length_le (by have := HN.out; omega)] at h
        simpa using h)
      go_wp2_with fail
      go_ret
      rw [HY.out]
      exact ⟨rfl, rfl⟩

set_option maxRecDepth 100000 in
set_option maxHeartbeats 4000000 in
theorem refMeet_any (A B : Option Addr) (n c m d : Nat) (a b : List Int) (w : World) (hn : n = a.length) (hm : m = b.length) (hl : n ≤ 1000) (hl2 : m ≤ 1000) (ha : Has w A (zin a)) (hb : Has w B (zin b)) :
    Calls Tryz.prog 25 #[.slice A n c, .slice B m d] w (IntsP (meetR a b) w) := by
  rw [show meetR a b = a.filter fun i => decide (i ∈ b) from rfl]
  have HN := Lib.hid hn
  have HM := Lib.hid hm
  have HA := Lib.hid ha
  have HB := Lib.hid hb
  have HI0 := Lib.hid (FltI.zero (fun i => decide (i ∈ b)) a (Later.refl w))
  clear hn hm ha hb
  go_enter Tryz.func25, Tryz.ntmps25
  go_wp2_with fail
  go_loopw [5, 6] (fun pv iv wr => FltI (fun i => decide (i ∈ b)) a w pv iv wr) (fun _ i _ => n - (intOf i).toNat)
  case atStart => exact HI0.out
  case round =>
    obtain ⟨k, P, pn, pc, rfl, rfl, hk, hpn, hown, hnil, lat⟩ := hrel
    have HOWN := Lib.hid hown
    have HNIL := Lib.hid hnil
    have HLAT := Lib.hid lat
    have HPN := Lib.hid hpn
    have hpb : pn ≤ 1000 := by have := flt_len (fun i => decide (i ∈ b)) a k; have := HN.out; omega
    clear HI0 hown hnil hpn
    by_cases hlt : k < n
    · have hkr : k < a.length := by have := HN.out; omega
      obtain ⟨ab, ao, hAA, ck⟩ := (HA.out.later lat).zat k hkr
      subst hAA
      obtain ⟨x, hx⟩ : ∃ x, a[k] = x := ⟨_, rfl⟩
      rw [hx] at ck
      have HX := Lib.hid hx
      have HS := Lib.hid (in_any B m d b x wr HM.out (by omega) (HB.out.later lat))
      clear hx lat
      go_wp2_with fail
      refine HS.out.mono ?_
      rintro e wX ⟨rfl, rfl⟩
      clear HS
      by_cases hp : x ∈ b
      · have hd : decide (x ∈ b) = true := by simpa using hp
        rw [hd]
        have HD := Lib.hid hd
        have HBK := Lib.hid (fun (wz : World) => Blk.new wz #[.int .i64 x] 3 wz.heap.size rfl)
        have HOA := Lib.hid (fun (o : Obj) => own_later HOWN.out (Later.new wr o))
        have HSZ := Lib.hid (show w.heap.size ≤ wr.heap.size from HLAT.out.size)
        clear hd hp
        go_wp2_with (at_builtin; refine wpList_append_g _ rfl (.tmp 19) (.tmp 24) 24 rfl w.heap.size 3 _ 1 8 Tryz.underlying24 info_z rfl (by decide) _ pn _ rfl (HOA.out _) _ 1 1 (zin [x]) rfl (HBK.out wr).has rfl (by intro h; cases h) (zin_one _) (by unfold maxLen; omega) (by omega) (by have := HSZ.out; simp; omega) ?_; rintro A' c' wq hO _ hbel hn2; have HO2 := Lib.hid hO; have HN2 := Lib.hid hn2; have HL3 := Lib.hid (Later.of ((HLAT.out.alloc _).below.trans hbel)); clear hO hn2 hbel)
        go_roundw
        all_goals first
          | exact FltI.yes _ k _ pn _ _ x rfl (by go_num) hkr HX.out HD.out HPN.out HO2.out HN2.out HL3.out
          | (simp [intOf]; omega)
      · have hd : decide (x ∈ b) = false := by simpa using hp
        rw [hd]
        have HD := Lib.hid hd
        clear hd hp
        go_wp2_with fail
        go_roundw
        all_goals first
          | exact FltI.no _ k _ _ _ x (by go_num) hkr HX.out HD.out HPN.out HOWN.out HNIL.out HLAT.out
          | (simp [intOf]; omega)
    · have HF := Lib.hid (FltI.all (by have := HN.out; omega) HPN.out HOWN.out HNIL.out HLAT.out)
      clear lat
      go_wp2_with fail
      go_ret
      exact HF.out
set_option maxRecDepth 100000 in
set_option maxHeartbeats 4000000 in
theorem refRest_any (A : Option Addr) (n c m : Nat) (a : List Int) (w : World) (hn : n = a.length) (hl : n ≤ 1000) (hl2 : m ≤ 1000) (ha : Has w A (zin a)) :
    Calls Tryz.prog 29 #[.slice A n c, .int .i64 m] w (IntsP (restR a m) w) := by
  rw [show restR a m = (upto m).filter fun i => !decide (i ∈ a) from rfl]
  have HN := Lib.hid hn
  have HA := Lib.hid ha
  have HI0 := Lib.hid (FltI.zero (fun i => !decide (i ∈ a)) (upto m) (Later.refl w))
  clear hn ha
  go_enter Tryz.func29, Tryz.ntmps29
  go_wp2_with fail
  go_loopw [5, 6] (fun pv iv wr => FltI (fun i => !decide (i ∈ a)) (upto m) w pv iv wr) (fun _ i _ => m - (intOf i).toNat)
  case atStart => exact HI0.out
  case round =>
    obtain ⟨k, P, pn, pc, rfl, rfl, hk, hpn, hown, hnil, lat⟩ := hrel
    rw [upto_len] at hk
    have HOWN := Lib.hid hown
    have HNIL := Lib.hid hnil
    have HLAT := Lib.hid lat
    have HPN := Lib.hid hpn
    have hpb : pn ≤ 1000 := by have := flt_len (fun i => !decide (i ∈ a)) (upto m) k; omega
    clear HI0 hown hnil hpn
    by_cases hlt : k < m
    · have HKR := Lib.hid (show k < (upto m).length by rw [upto_len]; exact hlt)
      have HX := Lib.hid (upto_get m k HKR.out)
      have HS := Lib.hid (in_any A n c a (k : Int) wr HN.out (by omega) (HA.out.later lat))
      clear lat
      go_wp2_with fail
      refine HS.out.mono ?_
      rintro e wX ⟨rfl, rfl⟩
      clear HS
      by_cases hp : (k : Int) ∈ a
      · have hd : decide ((k : Int) ∈ a) = true := by simpa using hp
        have HD := Lib.hid (show (!decide ((k : Int) ∈ a)) = false by rw [hd]; rfl)
        rw [hd]
        clear hd hp
        go_wp2_with fail
        go_roundw
        all_goals first
          | exact FltI.no _ k _ _ _ (k : Int) (by go_num) HKR.out HX.out HD.out HPN.out HOWN.out HNIL.out HLAT.out
          | (simp [intOf]; omega)
      · have hd : decide ((k : Int) ∈ a) = false := by simpa using hp
        have HD := Lib.hid (show (!decide ((k : Int) ∈ a)) = true by rw [hd]; rfl)
        rw [hd]
        have HBK := Lib.hid (fun (wz : World) => Blk.new wz #[.int .i64 (k : Int)] 3 wz.heap.size rfl)
        have HOA := Lib.hid (fun (o : Obj) => own_later HOWN.out (Later.new wr o))
        have HSZ := Lib.hid (show w.heap.size ≤ wr.heap.size from HLAT.out.size)
        clear hd hp
        go_wp2_with (at_builtin; refine wpList_append_g _ rfl (.tmp 16) (.tmp 18) 24 rfl w.heap.size 3 _ 1 8 Tryz.underlying24 info_z rfl (by decide) _ pn _ rfl (HOA.out _) _ 1 1 (zin [(k : Int)]) rfl (HBK.out wr).has rfl (by intro h; cases h) (zin_one _) (by unfold maxLen; omega) (by omega) (by have := HSZ.out; simp; omega) ?_; rintro A' c' wq hO _ hbel hn2; have HO2 := Lib.hid hO; have HN2 := Lib.hid hn2; have HL3 := Lib.hid (Later.of ((HLAT.out.alloc _).below.trans hbel)); clear hO hn2 hbel)
        go_roundw
        all_goals first
          | exact FltI.yes _ k _ pn _ _ (k : Int) rfl (by go_num) HKR.out HX.out HD.out HPN.out HO2.out HN2.out HL3.out
          | (simp [intOf]; omega)
    · have HF := Lib.hid (FltI.all (by rw [upto_len]; omega) HPN.out HOWN.out HNIL.out HLAT.out)
      clear lat
      go_wp2_with fail
      go_ret
      exact HF.out
end Go.Proofs.YtlfmmhbaphnifaaRRRRGreatDoor
