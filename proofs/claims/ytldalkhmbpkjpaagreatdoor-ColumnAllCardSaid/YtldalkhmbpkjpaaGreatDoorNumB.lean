
import Derived.Test.YtldalkhmbpkjpaaGreatDoorBase
import Derived.Test.YtldalkhmbpkjpaaGreatDoorNumMath
import Derived.Test.YtldalkhmbpkjpaaGreatDoorIs
import Derived.Outline
import Derived.WalkLawsBesides
import Derived.WalkSpells
import Derived.PlainAid
import Derived.Lib.Hide
import Derived.Deep.QuietTactic
import Derived.BigQuiet
import Derived.RegionTactic
import Derived.BigRegion
import Derived.Handy
import Derived.Laws.BitsAllLaws
/- Walks of package num: Put, Zig, Zag; and fault.At. -/

namespace Go.Proofs.YtldalkhmbpkjpaaGreatDoor
open Go.RowKit
set_option linter.unusedVariables false

theorem at_any (s : ByteArray) (p : Int) (e : Value) (x : Value) (w : World) (he : e = .iface 164 x) :
    Calls Tryz.prog 27 #[.string s, .int .i64 p, e] w fun r w' => r = .returned (.iface 82 (.pointer (some ⟨w.heap.size, 0, none⟩))) ∧ w.alloc (.cells #[.string s, .int .i64 p, .iface 164 x] 84) = w' := by
  subst he
  go_enter Tryz.func27, Tryz.ntmps27
  go_wp2
  go_ret
  exact ⟨rfl, rfl⟩

set_option maxRecDepth 100000 in
theorem or128 (y : Nat) : bits .or .u8 ((y : Int) % 256) 128 = ((y % 128 + 128 : Nat) : Int) := by
  have h : ∀ a : Fin 256, a.val ||| 128 = a.val % 128 + 128 := by decide
  have h1 := h ⟨y % 256, Nat.mod_lt _ (by decide)⟩
  have e : ((y : Int) % 256) = ((y % 256 : Nat) : Int) := by simp
  rw [e, show (128 : Int) = ((128 : Nat) : Int) from rfl, u8_or_nat _ _ (Nat.mod_lt _ (by decide)) (by decide), h1]
  congr 1
  show y % 256 % 128 + 128 = _
  omega

/-- What a call hands back that makes bytes: a slice of its own. -/
def Makes (l : List Nat) (w : World) (e : Ending) (w' : World) : Prop :=
  ∃ A c, e = .returned (.slice A l.length c) ∧ w'.ownsRow w.heap.size 5 1 (.slice A l.length c) l.length (ints .u8 l) ∧ Below w.heap.size w w' ∧ (A = none → c = 0)

set_option maxRecDepth 100000 in
theorem put_makes (v : Nat) (hv : v < 18446744073709551616) (w : World) : Calls Tryz.prog 88 #[.int .u64 v] w (Makes (putNum v) w) := by
  go_enter Tryz.func88, Tryz.ntmps88
  go_wp2_with fail
  go_loopw [3, 0] (fun bv x wr => ∃ (A : Option Addr) (n c f y : Nat) (xs : List Nat), bv = .slice A n c ∧ n = xs.length ∧ x = .int .u64 y ∧ f ≤ 9 ∧ n + f = 9 ∧ wr.ownsRow w.heap.size 5 1 (.slice A n c) n (ints .u8 xs) ∧ (A = none → c = 0) ∧ xs ++ putAux f y = putNum v ∧ y < 2 ^ (7 * f + 1) ∧ Below w.heap.size w wr) (fun _ x _ => (intOf x).toNat)
  case atStart => exact ⟨none, 0, 0, 9, v, [], rfl, rfl, rfl, by omega, by omega, World.ownsRow_nil _ _ _ _, fun _ => rfl, rfl, by simpa using hv, Below.refl _ _⟩
  case round =>
    obtain ⟨A, n, c, f, y, xs, rfl, hn, rfl, hf9, hnf, hown, hnil, hput, hy, hbel⟩ := hrel
    have HN := Lib.hid hn
    have HOWN := Lib.hid hown
    have HNIL := Lib.hid hnil
    have HPUT := Lib.hid hput
    have HY := Lib.hid hy
    have hy64 : y < 18446744073709551616 := Nat.lt_of_lt_of_le hy (by
      have : 2 ^ (7 * f + 1) ≤ 2 ^ 64 := Nat.pow_le_pow_right (by omega) (by omega)
      simpa using this)
    have HB := Lib.hid hbel
    have hz := hbel.size
    clear hn hown hnil hput hy hbel
    by_cases h128 : 128 ≤ y
    · have hor := or128 y
      obtain ⟨f, rfl⟩ : ∃ g, f = g + 1 := ⟨f - 1, by
        have := HY.out
        rcases f with _ | f
        · simp at this; omega
        · omega⟩
      go_wp2_with (at_builtin; refine wpList_append_rd _ rfl (.tmp 6) (.tmp 10) 22 rfl w.heap.size 5 (.int .u8 0) 1 Tryz.underlying22 info_u8 rfl _ n (ints .u8 xs) rfl (HOWN.out.alloc _) _ _ 1 1 (ints .u8 [y % 128 + 128]) rfl (rd_lit wr _ .u8 [y % 128 + 128] _ rfl) ?_ ?_ (ints_one _ _) ?_ ?_ ?_ ?_; rfl; (intro h; cases h); (unfold maxLen; omega); omega; (simp; omega); intro A2 c2 w5 o2 g2 b2 n2; have HO2 := Lib.hid o2; have HB5 := Lib.hid b2; have HN2 := Lib.hid n2; clear o2 g2 b2 n2)
      clear hor
      go_wp2_with fail
      go_roundw
      case rel =>
        refine ⟨A2, n + 1, c2, f, y / 128, xs ++ [y % 128 + 128], rfl, by rw [List.length_append, HN.out]; rfl, by simp, by omega, by omega, ?_, HN2.out, ?_, ?_, (HB.out.alloc (by omega) _).trans HB5.out⟩
        · rw [ints_snoc]; exact HO2.out
        · rw [← HPUT.out]
          conv => rhs; unfold putAux
          rw [if_pos h128, List.append_assoc]
          rfl
        · have := HY.out
          rw [show 7 * (f + 1) + 1 = 7 * f + 1 + 7 by omega, Nat.pow_add] at this
          rw [Nat.div_lt_iff_lt_mul (by omega)]
          exact this
      case measure => simp [intOf]; omega
    · have hy256 : (y : Int) % 256 = (y : Int) := by omega
      go_wp2_with (at_builtin; refine wpList_append_rd _ rfl (.tmp 14) (.tmp 17) 22 rfl w.heap.size 5 (.int .u8 0) 1 Tryz.underlying22 info_u8 rfl _ n (ints .u8 xs) rfl (HOWN.out.alloc _) _ _ 1 1 (ints .u8 [y]) rfl (rd_lit wr _ .u8 [y] _ rfl) ?_ ?_ (ints_one _ _) ?_ ?_ ?_ ?_; rfl; (intro h; cases h); (unfold maxLen; omega); omega; (simp; omega); intro A2 c2 w5 o2 g2 b2 n2; have HO2 := Lib.hid o2; have HB5 := Lib.hid b2; have HN2 := Lib.hid n2; clear o2 g2 b2 n2)
      go_ret
      have hp : xs ++ [y] = putNum v := by
        rw [← HPUT.out]
        cases f with
        | zero => rfl
        | succ f => unfold putAux; rw [if_neg h128]
      have hl : n + 1 = (putNum v).length := by rw [← hp, List.length_append, HN.out]; rfl
      have ho := HO2.out
      rw [← ints_snoc, hp, hl] at ho
      refine ⟨A2, c2, ?_, ho, (HB.out.alloc (by omega) _).trans HB5.out, HN2.out⟩
      rw [← hl]
      rfl

theorem zig_any (v : Int) (w : World) (h0 : -9223372036854775808 ≤ v) (h1 : v ≤ 9223372036854775807) : Calls Tryz.prog 96 #[.int .i64 v] w fun e w' => e = .returned (.int .u64 (zig v : Nat)) ∧ w = w' := by
  go_enter Tryz.func96, Tryz.ntmps96
  go_wp2_with fail
  go_ret
  exact ⟨ret_int (zig_val v h0 h1), rfl⟩
theorem zag_any (u : Nat) (w : World) (h1 : u < 18446744073709551616) : Calls Tryz.prog 107 #[.int .u64 u] w fun e w' => e = .returned (.int .i64 (zag u)) ∧ w = w' := by
  go_enter Tryz.func107, Tryz.ntmps107
  go_wp2_with fail
  go_ret
  exact ⟨ret_int (zag_val u h1), rfl⟩
end Go.Proofs.YtldalkhmbpkjpaaGreatDoor

/- Walks of package num: read, Take. -/

namespace Go.Proofs.YtldalkhmbpkjpaaGreatDoor
open Go.RowKit
set_option linter.unusedVariables false

/-- What the walks ask of the one sentinel of package num: the variable holds a pointer, to a block of one cell that is not frozen; both lie below B. -/
structure Sent (w : World) (B : Nat) (a : Addr) : Prop where
  cell : w.cell? ⟨5, 0, none⟩ = some (.iface 164 (.pointer (some a)))
  lt : 5 < B
theorem Sent.below {w w' : World} {B : Nat} {a : Addr} (h : Sent w B a) (hb : Below B w w') : Sent w' B a :=
  ⟨(hb.cell (p := ⟨5, 0, none⟩) h.lt).trans h.cell, h.lt⟩

/-- What read tells. -/
def ReadPost (b : List Nat) (a : Addr) (w : World) (e : Ending) (w' : World) : Prop :=
  match takeNum b with
  | some (v, n) => e = .returned (.tuple #[.int .u64 (v : Int), .int .i64 (n : Int), .nilIface]) ∧ w = w'
  | none => ∃ s p, e = .returned (.tuple #[.int .u64 0, .int .i64 0, .iface 82 (.pointer (some ⟨w.heap.size, 0, none⟩))]) ∧
      w.alloc (.cells #[.string s, .int .i64 p, .iface 164 (.pointer (some a))] 84) = w'

theorem readPost_some {b : List Nat} {a : Addr} {w : World} {v n : Nat} (h : takeNum b = some (v, n)) : ReadPost b a w (.returned (.tuple #[.int .u64 (v : Int), .int .i64 (n : Int), .nilIface])) w := by
  unfold ReadPost; rw [h]; exact ⟨rfl, rfl⟩
theorem readPost_none {b : List Nat} {a : Addr} {w : World} (s : ByteArray) (p : Int) (h : takeNum b = none) :
    ReadPost b a w (.returned (.tuple #[.int .u64 0, .int .i64 0, .iface 82 (.pointer (some ⟨w.heap.size, 0, none⟩))])) (w.alloc (.cells #[.string s, .int .i64 p, .iface 164 (.pointer (some a))] 84)) := by
  unfold ReadPost; rw [h]; exact ⟨s, p, rfl, rfl⟩

set_option maxRecDepth 100000 in
theorem and127 (x : Nat) (hx : x < 256) : bits .and .u8 (x : Int) 127 = ((x % 128 : Nat) : Int) := by
  have h : ∀ a : Fin 256, a.val &&& 127 = a.val % 128 := by decide
  have h1 := h ⟨x, hx⟩
  rw [show (127 : Int) = ((127 : Nat) : Int) from rfl, u8_and_nat _ _ hx (by decide), h1]
theorem step_lt (x k : Nat) (hk : k ≤ 9) (h : k = 9 → x ≤ 1) : x % 128 * 2 ^ (7 * k) < 18446744073709551616 := by
  by_cases h9 : k = 9
  · have := h h9
    subst h9
    omega
  · have h1 : 2 ^ (7 * k) ≤ 2 ^ 56 := Nat.pow_le_pow_right (by omega) (by omega)
    have h2 : x % 128 ≤ 127 := by omega
    have := Nat.mul_le_mul h2 h1
    omega
theorem orStep (v x k : Nat) (hk : k ≤ 9) (hv : v < 2 ^ (7 * k)) (h : x % 128 * 2 ^ (7 * k) < 18446744073709551616) :
    bits BinOp.or IntKind.u64 (v : Int) (IntKind.u64.wrap ((x : Int) % 128 * 2 ^ (7 * k))) = ((v + x % 128 * 2 ^ (7 * k) : Nat) : Int) := by
  have e : (x : Int) % 128 * 2 ^ (7 * k) = ((x % 128 * 2 ^ (7 * k) : Nat) : Int) := by simp
  have hv64 : v < 18446744073709551616 := by
    have : 2 ^ (7 * k) ≤ 2 ^ 63 := Nat.pow_le_pow_right (by omega) (by omega)
    omega
  rw [e, IntWalk.u64_in _ ⟨by omega, by omega⟩]
  rw [u64_or_nat _ _ hv64 h, Nat.or_comm, or_add _ _ (7 * k) (Nat.mul_mod_left _ _) hv, Nat.add_comm]
theorem sum_next (v x k : Nat) (hv : v < 2 ^ (7 * k)) : v + x % 128 * 2 ^ (7 * k) < 2 ^ (7 * (k + 1)) := by
  rw [pow7]
  have h2 : x % 128 + 1 ≤ 128 := by omega
  have h3 := Nat.mul_le_mul_right (2 ^ (7 * k)) h2
  rw [Nat.succ_mul] at h3
  omega
theorem drop_get (b : List Nat) (k : Nat) (h : k < b.length) : b.drop k = b[k] :: b.drop (k + 1) := List.drop_eq_getElem_cons h

set_option maxRecDepth 100000 in
theorem read_any (A : Option Addr) (n c : Nat) (b : List Nat) (a : Addr) (w : World) (B B' : Nat) (hn : n = b.length) (hr : Rd w B A (ints .u8 b)) (h256 : ∀ x ∈ b, x < 256) (hb : b.length ≤ 1000000) (hs : Sent w B' a) :
    Calls Tryz.prog 124 #[.slice A n c] w (ReadPost b a w) := by
  subst hn
  have hg := hs.cell
  have HR := Lib.hid hr
  clear hr hs
  go_enter Tryz.func124, Tryz.ntmps124
  go_wp2_with fail
  go_loop [10, 5] (fun i u => ∃ k v : Nat, k ≤ b.length ∧ i = .int .i64 k ∧ u = .int .u64 v ∧ k ≤ 9 ∧ v < 2 ^ (7 * k) ∧ takeAux k v (b.drop k) = takeNum b) (fun i _ => b.length - (intOf i).toNat)
  case atStart => exact ⟨0, 0, Nat.zero_le _, rfl, rfl, by omega, by simp, rfl⟩
  case round =>
    obtain ⟨k, v, hk, rfl, rfl, hk9, hv, ht⟩ := hrel
    have HV := Lib.hid hv
    have HT := Lib.hid ht
    clear hv ht
    by_cases hlt : k < b.length
    · obtain ⟨bb, off, rfl, hbb, hc⟩ := HR.out.at_ (k := k) (by rw [ints_length]; exact hlt)
      simp only [ints, List.getElem_map] at hc
      have hx := h256 _ (List.getElem_mem hlt)
      have HD := Lib.hid (drop_get b k hlt)
      obtain ⟨x, hxe⟩ : ∃ x, x = b[k] := ⟨_, rfl⟩
      rw [← hxe] at hc hx HD
      clear hxe
      by_cases h9 : k = 9 ∧ 1 < x
      · obtain ⟨rfl, h1⟩ := h9
        have hnone : takeNum b = none := by
          rw [← HT.out, HD.out]; unfold takeAux; rw [if_pos ⟨rfl, h1⟩]
        have HN := Lib.hid hnone
        clear hnone
        go_wp2_with (go_at_call 27; refine (at_any _ _ _ _ _ rfl).mono ?_; rintro e w' ⟨rfl, rfl⟩)
        go_ret3
        exact readPost_none _ _ HN.out
      · have hand := and127 x hx
        have hx1 : k = 9 → x ≤ 1 := by omega
        have HB7 := Lib.hid (step_lt x k (by omega) hx1)
        have HO := Lib.hid (orStep v x k hk9 HV.out HB7.out)
        by_cases h128 : 128 ≤ x
        · have hk8 : k ≤ 8 := by omega
          have hke : ((k : Int) == 9) = false := by simp; omega
          go_wp2_with fail
          go_round
          case rel =>
            refine ⟨k + 1, v + x % 128 * 2 ^ (7 * k), hlt, by go_num, by rw [HO.out], by omega, sum_next v x k HV.out, ?_⟩
            rw [← HT.out, HD.out]
            conv => rhs; unfold takeAux
            rw [if_neg h9, if_pos h128]
          case measure => simp [intOf]; omega
        · by_cases h0 : x = 0 ∧ 0 < k
          · obtain ⟨rfl, hkp⟩ := h0
            have hnone : takeNum b = none := by
              rw [← HT.out, HD.out]; unfold takeAux; rw [if_neg h9, if_neg h128, if_pos ⟨rfl, hkp⟩]
            have HN := Lib.hid hnone
            have hke : (((0 : Nat) : Int) == 0) = true := rfl
            clear hnone
            go_wp2_with (go_at_call 27; refine (at_any _ _ _ _ _ rfl).mono ?_; rintro e w' ⟨rfl, rfl⟩)
            all_goals go_ret3
            all_goals exact readPost_none _ _ HN.out
          · have hsome : takeNum b = some (v + x % 128 * 2 ^ (7 * k), k + 1) := by
              rw [← HT.out, HD.out]; unfold takeAux; rw [if_neg h9, if_neg h128, if_neg h0]
            have HN := Lib.hid hsome
            clear hsome
            have hfin : ∀ z1 z2 : Int, z1 = ((v + x % 128 * 2 ^ (7 * k) : Nat) : Int) → z2 = ((k + 1 : Nat) : Int) → ReadPost b a w (.returned (.tuple #[.int .u64 z1, .int .i64 z2, .nilIface])) w := fun z1 z2 e1 e2 => by
              subst e1 e2; exact readPost_some HN.out
            have HF := Lib.hid hfin
            clear hfin
            by_cases hk9' : k = 9
            · have hke : ((k : Int) == 9) = true := by simp [hk9']
              have hx0 : ((x : Int) == 0) = false := by simp; omega
              have hxx : x ≤ 1 := hx1 hk9'
              clear hk9' h0 h9 hx1
              go_wp2_with fail
              all_goals go_ret3
              all_goals exact HF.out _ _ HO.out (by simp)
            · have hke : ((k : Int) == 9) = false := by simp; omega
              by_cases hxz : x = 0
              · have hx0 : ((x : Int) == 0) = true := by simp [hxz]
                have hkz : k ≤ 0 := by omega
                clear hk9' h0 h9 hx1 hxz
                go_wp2_with fail
                all_goals go_ret3
                all_goals exact HF.out _ _ HO.out (by simp)
              · have hx0 : ((x : Int) == 0) = false := by simp; omega
                clear hk9' h0 h9 hx1 hxz
                go_wp2_with fail
                all_goals go_ret3
                all_goals exact HF.out _ _ HO.out (by simp)
    · have hnone : takeNum b = none := by
        rw [← HT.out, List.drop_of_length_le (by omega)]; rfl
      have HN := Lib.hid hnone
      clear hnone
      go_wp2_with (go_at_call 27; refine (at_any _ _ _ _ _ rfl).mono ?_; rintro e w' ⟨rfl, rfl⟩)
      go_ret3
      exact readPost_none _ _ HN.out

/-- What Take tells. -/
def takeR (b : List Nat) : Nat × Nat × Bool := match takeNum b with | some (v, n) => (v, n, true) | none => (0, 0, false)
def TakePost (b : List Nat) (w : World) (e : Ending) (w' : World) : Prop :=
  ∃ v n ok, takeR b = (v, n, ok) ∧ e = .returned (.tuple #[.int .u64 (v : Nat), .int .i64 (n : Nat), .bool ok]) ∧ Below w.heap.size w w'

theorem takePost_none {b : List Nat} {w w' : World} (h : takeNum b = none) (hb : Below w.heap.size w w') : TakePost b w (.returned (.tuple #[.int .u64 0, .int .i64 0, .bool false])) w' :=
  ⟨0, 0, false, by unfold takeR; rw [h], rfl, hb⟩
theorem takePost_some {b : List Nat} {w w' : World} {v n : Nat} (h : takeNum b = some (v, n)) (hb : Below w.heap.size w w') : TakePost b w (.returned (.tuple #[.int .u64 (v : Nat), .int .i64 (n : Nat), .bool true])) w' :=
  ⟨v, n, true, by unfold takeR; rw [h], rfl, hb⟩

set_option maxRecDepth 100000 in
theorem take_num (A : Option Addr) (n c : Nat) (b : List Nat) (a : Addr) (w : World) (B : Nat) (hn : n = b.length) (hr : Rd w B A (ints .u8 b)) (h256 : ∀ x ∈ b, x < 256) (hb : b.length ≤ 1000000) (hs : Sent w w.heap.size a) :
    Calls Tryz.prog 106 #[.slice A n c] w (TakePost b w) := by
  subst hn
  have HC := Lib.hid (read_any A b.length c b a w B w.heap.size rfl hr h256 hb hs)
  have HS := Lib.hid hs
  clear hs hr
  cases hT : takeNum b with
  | none =>
    have HT := Lib.hid hT
    clear hT
    go_enter Tryz.func106, Tryz.ntmps106
    go_wp2_with fail
    refine HC.out.mono ?_
    rintro e w1 hp
    unfold ReadPost at hp
    rw [HT.out] at hp
    obtain ⟨s, p, rfl, hw1⟩ := hp
    have b1 : Below w.heap.size w w1 := hw1 ▸ (Below.refl _ _).alloc (Nat.le_refl _) _
    have hg := (HS.out.below b1).cell
    have hc : w1.cell? ⟨w.heap.size, 0 + 2, none⟩ = some (.iface 164 (.pointer (some a))) := by
      rw [← hw1]; rw [World.cell?_alloc_at _ _ _ _ rfl]; rfl
    have HI := Lib.hid (is_wrap_same w.heap.size 0 a w1 hc)
    have HB := Lib.hid b1
    clear hw1 b1 hc
    go_wp2_with (go_at_call 78; refine HI.out.mono ?_; rintro e w' ⟨rfl, rfl⟩)
    go_ret3
    exact takePost_none HT.out HB.out
  | some q =>
    obtain ⟨v, m⟩ := q
    have HT := Lib.hid hT
    clear hT
    go_enter Tryz.func106, Tryz.ntmps106
    go_wp2_with fail
    refine HC.out.mono ?_
    rintro e w1 hp
    unfold ReadPost at hp
    rw [HT.out] at hp
    obtain ⟨rfl, rfl⟩ := hp
    have hg := HS.out.cell
    go_wp2_with (go_at_call 78; refine (is_nil a _).mono ?_; rintro e w' ⟨rfl, rfl⟩)
    go_ret3
    exact takePost_some HT.out (Below.refl _ _)
end Go.Proofs.YtldalkhmbpkjpaaGreatDoor
