/- Walks of the document's answer for bits: TakeBits. -/
import Derived.Test.YtdhaagooiioglaaDoorRefBitsA
namespace Go.Proofs.YtdhaagooiioglaaDoor
open Go.RowKit
set_option linter.unusedVariables false

theorem run_cv' (A : Option Addr) (n c : Nat) (l : List Nat) (hn : n = l.length) (w : World) (B : Nat) (hr : Rd w B A (ints .u8 l)) :
    (convert 22 9 (.slice A n c)).run Tryd.prog w = .ok (.string (bstr l)) w :=
  run_bstr 22 5 9 Tryd.underlying22 Tryd.underlying5 Tryd.underlying9 A n c l hn w B hr

theorem refBitsTake_arg (A : Option Addr) (m c : Nat) (n k : Int) (w : World) (h : n < 0 ∨ 1000 < n ∨ k < 0 ∨ 64 < k) :
    Calls Tryd.prog 80 #[.slice A m c, .int .i64 n, .int .i64 k] w fun e w' => e = .returned (.tuple #[.slice none 0 0, .bool false]) ∧ w = w' := by
  rcases Int.lt_or_le n 0 with h1 | h1
  · go_enter Tryd.func80, Tryd.ntmps80
    go_wp2_with fail
    go_ret2
    exact ⟨rfl, rfl⟩
  · rcases Int.lt_or_le 1000 n with h2 | h2
    · go_enter Tryd.func80, Tryd.ntmps80
      go_wp2_with fail
      go_ret2
      exact ⟨rfl, rfl⟩
    · rcases Int.lt_or_le k 0 with h3 | h3
      · go_enter Tryd.func80, Tryd.ntmps80
        go_wp2_with fail
        go_ret2
        exact ⟨rfl, rfl⟩
      · have h4 : 64 < k := by omega
        clear h
        go_enter Tryd.func80, Tryd.ntmps80
        go_wp2_with fail
        go_ret2
        exact ⟨rfl, rfl⟩

theorem refBitsTake_len (A : Option Addr) (m c : Nat) (n k : Nat) (w : World) (hn : n ≤ 1000) (hk : k ≤ 64) (h : m ≠ (n * k + 7) / 8) (hm : m ≤ 1000000) :
    Calls Tryd.prog 80 #[.slice A m c, .int .i64 n, .int .i64 k] w fun e w' => e = .returned (.tuple #[.slice none 0 0, .bool false]) ∧ w = w' := by
  have hnk : n * k ≤ 64000 := Nat.le_trans (Nat.mul_le_mul hn hk) (by decide)
  have h1 : (n : Int) * (k : Int) ≤ 64000 := by have := Int.ofNat_le.2 hnk; simpa using this
  have h0 : 0 ≤ (n : Int) * (k : Int) := Int.mul_nonneg (by omega) (by omega)
  obtain ⟨q, hq⟩ : ∃ q, q = (n * k + 7) / 8 := ⟨_, rfl⟩
  have hqe : ((n : Int) * (k : Int) + 7) / 8 = (q : Int) := by rw [hq]; simp
  rw [← hq] at h
  clear hq
  have hne : ((m : Int) != (q : Int)) = true := by rw [bne_iff_ne]; omega
  go_enter Tryd.func80, Tryd.ntmps80
  go_wp2_with fail
  go_ret2
  exact ⟨rfl, rfl⟩

theorem takeVal (y x s : Nat) (hy : y < 9223372036854775808) : IntKind.u64.wrap (2 * (y : Int) + IntKind.u64.wrap (((x : Int) / 2 ^ s).tmod 2)) = ((2 * y + x / 2 ^ s % 2 : Nat) : Int) := by
  rw [cast_shr]
  generalize x / 2 ^ s = z
  rw [Int.tmod_eq_emod_of_nonneg (by omega), IntKind.wrap_u64, IntKind.wrap_u64]
  omega

set_option maxHeartbeats 1000000 in
theorem refBitsTake_body (ok : Bool) (A : Option Addr) (c : Nat) (l : List Nat) (n k : Nat) (w : World) (hr : Rd w w.heap.size A (ints .u8 l)) (h256 : ∀ x ∈ l, x < 256) (hn : n ≤ 1000) (hk : k ≤ 64) (hl : l.length = (n * k + 7) / 8) (hok : ok = decide (cat 8 l < 2 ^ (n * k))) :
    Calls Tryd.prog 80 #[.slice A l.length c, .int .i64 n, .int .i64 k] w fun e w' => (ok = true → e = .returned (.tuple #[.slice (some ⟨w.heap.size, 0, none⟩) n n, .bool true]) ∧
      Row w' w.heap.size 59 .u64 (chop k (cat 8 l) n)) ∧ (ok = false → e = .returned (.tuple #[.slice none 0 0, .bool false])) ∧ Below w.heap.size w w' := by
  have hnk : n * k ≤ 64000 := Nat.le_trans (Nat.mul_le_mul hn hk) (by decide)
  have h1 : (n : Int) * (k : Int) ≤ 64000 := by have := Int.ofNat_le.2 hnk; simpa using this
  have h0 : 0 ≤ (n : Int) * (k : Int) := Int.mul_nonneg (by omega) (by omega)
  have hle : ((n : Int) * (k : Int) + 7) / 8 = (l.length : Int) := by rw [hl]; simp
  have hne : ((l.length : Int) != (l.length : Int)) = false := by simp
  have hl8 : l.length ≤ 8001 := by omega
  have HLEN := Lib.hid hl
  have HR := Lib.hid hr
  have HOK := Lib.hid hok
  clear hr hl hok
  have hmk := fun W => run_make_row' (P := Tryd.prog) 73 59 (.int .u64 0) 8 Tryd.underlying73 info_u64 rfl .i64 .i64 n (by omega) (by omega) W
  go_enter Tryd.func80, Tryd.ntmps80
  go_wp2_with fail
  clear hmk
  obtain ⟨L, hL⟩ : ∃ L, L = chop k (cat 8 l) n := ⟨_, rfl⟩
  have hLn : L.length = n := by rw [hL, chop_length]
  have HLn := Lib.hid hLn
  have HL := Lib.hid hL
  clear hLn hL
  go_loopw [9] (fun i wr => ∃ j : Nat, j ≤ n ∧ i = .int .i64 j ∧ Row wr w.heap.size 59 .u64 (L.take j ++ List.replicate (n - j) 0) ∧ Below w.heap.size w wr) (fun i _ => n - (intOf i).toNat)
  case atStart =>
    refine ⟨0, Nat.zero_le _, rfl, ?_, (Below.refl _ _).alloc (Nat.le_refl _) _⟩
    simp only [List.take_zero, List.nil_append, Nat.sub_zero]
    exact Row.made w _ .u64 n
  case round =>
    obtain ⟨j, hj, rfl, hrow, hbel⟩ := hrel
    have HROW := Lib.hid hrow
    have HBEL := Lib.hid hbel
    clear hrow hbel
    by_cases hlt : j < n
    · have hjk : (j + 1) * k ≤ n * k := Nat.mul_le_mul_right _ hlt
      have hjs : (j + 1) * k = j * k + k := Nat.succ_mul j k
      obtain ⟨p, hp⟩ : ∃ p, p = j * k := ⟨_, rfl⟩
      have hpe : (j : Int) * (k : Int) = (p : Int) := by rw [hp]; simp
      have hpk : p + k ≤ n * k := by omega
      have HP := Lib.hid hp
      clear hp hjs hjk
      go_wp2_with fail
      go_loopw [10] (fun q wi => ∃ t : Nat, t ≤ k ∧ q = .int .i64 ((t : Int) - 1) ∧ Row wi w.heap.size 59 .u64 ((L.take j ++ List.replicate (n - j) 0).set j (cat 8 l / 2 ^ (p + t) % 2 ^ (k - t))) ∧ Below w.heap.size w wi) (fun q _ => (intOf q + 1).toNat)
      case atStart =>
        refine ⟨k, Nat.le_refl _, rfl, ?_, HBEL.out⟩
        rw [Nat.sub_self, Nat.pow_zero, Nat.mod_one, set_same L j n HLn.out hlt]
        exact HROW.out
      case round =>
        obtain ⟨t, ht, rfl, hrow, hbel⟩ := hrel
        rcases t with _ | t
        · have e1 : ((0 : Nat) : Int) - 1 = -1 := rfl
          rw [e1]
          rw [Nat.add_zero, Nat.sub_zero] at hrow
          have hx : cat 8 l / 2 ^ p % 2 ^ k = L[j]'(by have := HLn.out; omega) := by
            have e := HL.out
            subst e
            rw [chop_get, HP.out, Nat.mul_comm]
          rw [set_fill L j n HLn.out hlt _ hx] at hrow
          have HROWI := Lib.hid hrow
          have HBELI := Lib.hid hbel
          clear hrow hbel hx
          go_wp2_with fail
          go_roundw
          case rel => exact ⟨j + 1, hlt, by go_num, HROWI.out, HBELI.out⟩
          case measure => simp [intOf]; omega
        · have e1 : ((t + 1 : Nat) : Int) - 1 = (t : Int) := by omega
          rw [e1]
          have hq : (p + t) / 8 < l.length := by have := HLEN.out; omega
          obtain ⟨b, off, rfl, hb, hc⟩ := (HR.out.below hbel).at_ (k := (p + t) / 8) (by rw [ints_length]; exact hq)
          simp only [ints, List.getElem_map] at hc
          have hx := h256 _ (List.getElem_mem hq)
          have HX := Lib.hid (cat_get 8 l h256 ((p + t) / 8) hq)
          obtain ⟨x, hxe⟩ : ∃ x, x = l[(p + t) / 8] := ⟨_, rfl⟩
          rw [← hxe] at hc hx HX
          clear hxe
          have hcell := hrow.cell j (by simp; have := HLn.out; omega)
          simp only [List.getElem_set_self] at hcell
          have hfr := hrow.frozen j
          have hold : cat 8 l / 2 ^ (p + (t + 1)) % 2 ^ (k - (t + 1)) < 9223372036854775808 := Nat.lt_of_lt_of_le (Nat.mod_lt _ (Nat.two_pow_pos _)) (pow_le64 k t hk)
          have HN := Lib.hid (refTakeStep (cat 8 l) p t k (by omega))
          obtain ⟨y, hy⟩ : ∃ y, y = cat 8 l / 2 ^ (p + (t + 1)) % 2 ^ (k - (t + 1)) := ⟨_, rfl⟩
          rw [← hy] at hcell hold HN hrow
          have HROWI := Lib.hid hrow
          have HBELI := Lib.hid hbel
          clear hrow hbel hy
          go_wp2_with fail
          go_region
          go_wp2
          go_roundw
          case rel =>
            refine ⟨t, by omega, rfl, ?_, (HBELI.out.setCell (Nat.le_refl _) _).drew⟩
            refine Row.drew (HROWI.out.set' j _ _ (takeVal y x ((p + t) % 8) hold) _ ?_)
            rw [List.set_set, HX.out, refBit _ _ _ (by omega), show 8 * ((p + t) / 8) + (p + t) % 8 = p + t by omega, HN.out]
          case measure => simp [intOf]
    · have hfin : L.take j ++ List.replicate (n - j) 0 = chop k (cat 8 l) n := by
        rw [show n - j = 0 by omega, List.replicate_zero, List.append_nil, List.take_of_length_le (by have := HLn.out; omega), HL.out]
      have hrow := HROW.out
      rw [hfin] at hrow
      have HRow := Lib.hid hrow
      clear hrow hfin HROW
      go_wp2_with fail
      refine (refBitsPut_yes (some ⟨w.heap.size, 0, none⟩) n n (chop k (cat 8 l) n) k k l.length wr.heap.size wr (by rw [chop_length]) rfl (by rw [chop_length]; exact HLEN.out) rfl HRow.out.rd (by rw [chop_length]; exact hn)
        (fun x hx => Nat.lt_of_lt_of_le (chop_lt k n _ x hx) (by have : 2 ^ k ≤ 2 ^ 64 := Nat.pow_le_pow_right (by omega) hk; simpa using this)) hk ((widL_le _ _).2 (chop_lt k n _))).mono ?_
      rintro e w1 ⟨rfl, r1, b1⟩
      have hg := HRow.out.lt
      have HRow1 := Lib.hid (HRow.out.below b1 hg)
      have HB1 := Lib.hid (HBEL.out.trans (b1.mono (by omega)))
      have hcv1 := run_cv' (some ⟨wr.heap.size, 0, none⟩) l.length l.length (chop 8 (cat k (chop k (cat 8 l) n)) l.length) (by rw [chop_length]) w1 _ r1.rd
      have hcv2 := run_cv' A l.length c l rfl w1 _ (HR.out.below HB1.out)
      obtain ⟨S2, hS2⟩ : ∃ S2, S2 = bstr l := ⟨_, rfl⟩
      cases ok
      · have hne : chop 8 (cat k (chop k (cat 8 l) n)) l.length ≠ l := fun h => by
          have := (again_iff l n k l.length h256 HLEN.out rfl).1 h
          have := HOK.out
          rw [decide_eq_true ‹_›] at this
          cases this
        obtain ⟨S1, hS1⟩ : ∃ S1, S1 = bstr (chop 8 (cat k (chop k (cat 8 l) n)) l.length) := ⟨_, rfl⟩
        have hSb : (S1.toList == S2.toList) = false := by rw [hS1, hS2]; exact bstr_ne (chop_lt 8 _ _) h256 hne
        rw [← hS1] at hcv1
        rw [← hS2] at hcv2
        clear hS1 hS2 r1 b1 hne
        go_wp2
        go_ret2
        exact ⟨rfl, HB1.out⟩
      · rw [(again_iff l n k l.length h256 HLEN.out rfl).2 (of_decide_eq_true HOK.out.symm), ← hS2] at hcv1
        rw [← hS2] at hcv2
        clear hS2 r1 b1
        go_wp2
        go_ret2
        exact ⟨⟨rfl, HRow1.out⟩, HB1.out⟩
end Go.Proofs.YtdhaagooiioglaaDoor
