/- The walk of NullsBack. -/
import Derived.Test.YtbmlipandjbbbabDoorNullsD
namespace Go.Proofs.YtbmlipandjbbbabDoor
open Go.RowKit
set_option linter.unusedVariables false

/-- Behind which bit no other is set, of the first i. -/
def ts (l : List Bool) : Nat → Nat
  | 0 => 0
  | i + 1 => if l.getD i false then i + 1 else ts l i
theorem ts_le (l : List Bool) : ∀ i, ts l i ≤ i
  | 0 => Nat.le_refl _
  | i + 1 => by
    unfold ts
    split
    · exact Nat.le_refl _
    · exact Nat.le_succ_of_le (ts_le l i)
theorem ts_iff (l : List Bool) (m : Nat) : ∀ i, i ≤ l.length → (cat 1 ((nbits l).take i) < 2 ^ m ↔ ts l i ≤ m)
  | 0, _ => by
    rw [List.take_zero]
    show 0 < 2 ^ m ↔ 0 ≤ m
    exact ⟨fun _ => Nat.zero_le _, fun _ => Nat.two_pow_pos _⟩
  | i + 1, h => by
    have ih := ts_iff l m i (by omega)
    have h1 := take_bits l i (by omega)
    have h2 := take_bits_lt l i (by omega)
    have hg : l.getD i false = l[i] := by rw [List.getD_eq_getElem?_getD, List.getElem?_eq_getElem (by omega)]; rfl
    unfold ts
    rw [hg, h1]
    cases l[i]
    · simpa using ih
    · simp only [if_true, Bool.toNat_true, Nat.one_mul]
      constructor
      · intro h3
        have : 2 ^ i < 2 ^ m := by omega
        exact (Nat.pow_lt_pow_iff_right (by omega)).1 this
      · intro h3
        have : 2 ^ (i + 1) ≤ 2 ^ m := Nat.pow_le_pow_right (by omega) h3
        rw [Nat.pow_succ] at this
        omega
theorem takeN_ts (l : List Bool) (k : Nat) (hk : k ≤ 1000) : ((k + 7) / 8 = (l.length + 7) / 8 ∧ ts l l.length ≤ k) ↔ ∃ x, takeN (packN l) k = some x := by
  unfold takeN
  rw [show (k : Int).toNat = k from rfl, packN_length, (pack_bits l).1]
  have h := ts_iff l k l.length (Nat.le_refl _)
  rw [List.take_of_length_le (by rw [nbits_length]; exact Nat.le_refl _)] at h
  constructor
  · rintro ⟨h1, h2⟩
    exact ⟨_, by rw [if_pos ⟨by omega, by omega, h1.symm, h.2 h2⟩]⟩
  · rintro ⟨x, hx⟩
    split at hx
    · rename_i hc
      exact ⟨hc.2.2.1.symm, h.1 hc.2.2.2⟩
    · cases hx

set_option maxRecDepth 100000 in
theorem nullsBack_long (A : Option Addr) (n c : Nat) (at_ : Int) (aB aS : Addr) (w : World) (hs : Sn w aB aS) (h : 60 < n) :
    Calls Tryd.prog 4 #[.slice A n c, .int .u8 at_] w fun e w' => e = .returned (.bool true) ∧ Later w w' := by
  go_enter Tryd.func4, Tryd.ntmps4
  go_wp2_with fail
  refine (begun4_any aB aS w hs).mono ?_
  rintro e w1 ⟨rfl, l1⟩
  go_wp2_with fail
  go_ret
  exact ⟨rfl, l1⟩

set_option maxRecDepth 100000 in
set_option maxHeartbeats 1000000 in
theorem nullsBack_walk (A : Option Addr) (c : Nat) (l : List Bool) (t : Nat) (aB aS : Addr) (w : World) (hs : Sn w aB aS) (hr : Has w A (bools l)) (hl : l.length ≤ 60) (ht : t < 256) :
    Calls Tryd.prog 4 #[.slice A l.length c, .int .u8 t] w fun e w' => e = .returned (.bool true) ∧ Later w w' := by
  go_enter Tryd.func4, Tryd.ntmps4
  go_wp2_with fail
  refine (begun4_any aB aS w hs).mono ?_
  rintro e w1 ⟨rfl, l1⟩
  go_wp2_with fail
  refine (nullsPut_any A l.length c l w1 rfl (hr.later l1) (by omega)).mono ?_
  rintro e w2 ⟨rfl, r2, l2⟩
  go_wp2_with fail
  refine (nullsTake_any (some ⟨w1.heap.size, 0, none⟩) _ ((l.length + 7) / 8) (packN l) l.length aB aS w2 (packN_length l).symm (hs.later (l1.trans l2)) (Has.row r2) (packN_lt l)).mono ?_
  intro e w3 h
  obtain ⟨g, rfl, hg, B3, l3⟩ := h.yes (takeN_put l (by omega))
  have L3 := (l1.trans l2).trans l3
  have R3 : Has w3 (some ⟨w1.heap.size, 0, none⟩) (ints .u8 (packN l)) := (Has.row r2).later l3
  have hp : ((((l.length + 7) / 8 : Nat) : Int)) = ((l.length : Int) + 7) / 8 := by omega
  obtain ⟨p, hpe⟩ : ∃ p, p = (l.length + 7) / 8 := ⟨_, rfl⟩
  rw [← hpe] at hp ⊢
  have hp2 : ((l.length : Int) + 7) / 8 = (p : Int) := hp.symm
  have HPE := Lib.hid hpe
  clear h l1 l2 l3 hg r2 hp hpe
  go_wp2_with fail
  go_loopw [8, 9] (fun s i wr => ∃ k u : Nat, k ≤ l.length ∧ i = .int .i64 k ∧ s = .int .i64 u ∧ u = ts l k ∧ Later w3 wr) (fun _ i _ => l.length - (intOf i).toNat)
  case atStart => exact ⟨0, 0, Nat.zero_le _, rfl, rfl, rfl, Later.refl _⟩
  case round =>
    obtain ⟨k, u, hk, rfl, rfl, hu, hlat⟩ := hrel
    by_cases hlt : k < l.length
    · obtain ⟨bb, off, hA, hbb, hc⟩ := (hr.later (L3.trans hlat)).rd.at_ (k := k) (by rw [bools_length]; exact hlt)
      have hc1 : wr.cell? ⟨bb, off + k, none⟩ = some (.bool l[k]) := by rw [hc]; simp [bools]
      have hc2 := (B3.later hlat).cell k (.bool l[k]) (by rw [List.getElem?_toArray]; exact bools_get l k hlt)
      subst hA
      have hnext : ts l (k + 1) = if l[k] then k + 1 else ts l k := by
        show (if l.getD k false then _ else _) = _
        rw [List.getD_eq_getElem?_getD, List.getElem?_eq_getElem hlt]; rfl
      obtain ⟨x, hx⟩ : ∃ x, x = l[k] := ⟨_, rfl⟩
      rw [← hx] at hc1 hc2 hnext
      rw [← hu] at hnext
      have hki : (k : Int) < (l.length : Int) := by omega
      have HN := Lib.hid hnext
      clear hc hnext hx hu
      go_wp2_with fail
      go_quiet (fail)
      cases x
      · go_wp2_with fail
        go_roundw
        case rel => exact ⟨k + 1, u, by omega, by go_num, rfl, by rw [HN.out]; rfl, hlat.drewN _⟩
        case measure => simp [intOf]; omega
      · go_wp2_with fail
        go_roundw
        case rel => exact ⟨k + 1, k + 1, by omega, by go_num, by go_num, by rw [HN.out]; rfl, hlat.drewN _⟩
        case measure => simp [intOf]; omega
    · obtain rfl : k = l.length := by omega
      have hub := ts_le l l.length
      rw [← hu] at hub
      have htn := takeN_ts l (t % 70) (by omega)
      rw [← hu] at htn
      obtain ⟨m, hme⟩ : ∃ m, m = t % 70 := ⟨_, rfl⟩
      have hmi : (t : Int) % 70 = (m : Int) := by omega
      have hm70 : m < 70 := by omega
      rw [← hme] at htn
      have Lr := L3.trans hlat
      have HTK := Lib.hid (nullsTake_any (some ⟨w1.heap.size, 0, none⟩) p p (packN l) m aB aS wr (by rw [packN_length]; exact HPE.out) (hs.later Lr) (R3.later hlat) (packN_lt l))
      have HTN := Lib.hid htn
      have HU := Lib.hid hu
      have HPI := Lib.hid hp2
      clear htn hu hme hp2 hr B3 R3
      go_wp2_with fail
      refine HTK.out.mono ?_
      intro e w5 h
      by_cases hlen : (m + 7) / 8 = p
      · have hlen1 : (((m : Int) + 7) / 8 == (p : Int)) = true := by simp; omega
        by_cases hset : u ≤ m
        · obtain ⟨x, hx⟩ := HTN.out.1 ⟨by have := HPE.out; omega, hset⟩
          obtain ⟨gx, rfl, _, _, l5⟩ := h.yes hx
          have Lx := Lr.trans l5
          clear h hlen
          go_wp2_with fail
          go_ret
          exact ⟨rfl, Lx⟩
        · have hno : takeN (packN l) m = none := by
            cases hx : takeN (packN l) m with
            | none => rfl
            | some x => exact absurd (HTN.out.2 ⟨x, hx⟩).2 hset
          obtain ⟨rfl, l5⟩ := h.no hno
          have Lx := Lr.trans l5
          have hset' : decide (u ≤ m) = false := by simp; omega
          have hset2 : decide ((u : Int) ≤ (m : Int)) = false := by simp; omega
          clear h hlen hno hset
          go_wp2_with fail
          go_ret
          exact ⟨rfl, Lx⟩
      · have hno : takeN (packN l) m = none := by
          cases hx : takeN (packN l) m with
          | none => rfl
          | some x => exact absurd ((HTN.out.2 ⟨x, hx⟩).1.trans HPE.out.symm) hlen
        obtain ⟨rfl, l5⟩ := h.no hno
        have Lx := Lr.trans l5
        have hlen1 : (((m : Int) + 7) / 8 == (p : Int)) = false := by simp; omega
        clear h hlen hno
        go_wp2_with fail
        go_ret
        exact ⟨rfl, Lx⟩
end Go.Proofs.YtbmlipandjbbbabDoor
