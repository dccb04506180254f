/- The walks of col, begun, and ColumnBack, of law 10. -/
import Derived.Test.YtldalkhmbpkjpaaGreatDoorColD
import Derived.Test.YtldalkhmbpkjpaaGreatDoorPlayV
import Derived.Maps.AppendAt
namespace Go.Proofs.YtldalkhmbpkjpaaGreatDoor
open Go.RowKit
set_option linter.unusedVariables false

/-- What col gives: values of the type, some of them nothing. -/
def ColPost (t : Int) (N : Nat) (w : World) (e : Ending) (w' : World) : Prop :=
  ∃ (l : List Val3) (L : Option Addr) (cl : Nat), e = .returned (.slice L l.length cl) ∧ Has w' L (fl l) ∧ FitL (tyOf t) l ∧ All64 l ∧ l.length = N ∧ l.length ≤ cl ∧ cl ≤ 9223372036854775807 ∧ (L = none → cl = 0) ∧ Later w w'
def ColInv (t : Int) (N g : Nat) (A : Option Addr) (n c : Nat) (w : World) (lv iv : Value) (wr : World) : Prop :=
  ∃ (l : List Val3) (L : Option Addr) (cl j k : Nat), lv = .slice L l.length cl ∧ iv = .int .i64 j ∧ j ≤ N ∧ l.length = j ∧ k ≤ n ∧ FitL (tyOf t) l ∧ All64 l ∧ wr.ownsRow (g + 1) 26 3 (.slice L l.length cl) l.length (fl l) ∧ Pk wr g A n c k ∧ Later w wr
theorem ColInv.mk {t : Int} {N g : Nat} {A : Option Addr} {n c : Nat} {w wr : World} (l : List Val3) (L : Option Addr) (m cl k : Nat) (i : Int) (j : Nat) (hm : m = l.length) (hi : i = (j : Int)) (hj : j ≤ N) (hlj : l.length = j) (hk : k ≤ n) (ok : FitL (tyOf t) l) (a : All64 l) (o : wr.ownsRow (g + 1) 26 3 (.slice L m cl) m (fl l)) (p : Pk wr g A n c k) (lat : Later w wr) : ColInv t N g A n c w (.slice L m cl) (.int .i64 i) wr := by
  subst hm hi
  exact ⟨l, L, cl, j, k, rfl, rfl, hj, hlj, hk, ok, a, o, p, lat⟩

set_option maxRecDepth 100000 in
set_option maxHeartbeats 2000000 in
theorem col_10 (t : Int) (N : Nat) (A : Option Addr) (n c : Nat) (bs : List Nat) (w : World) (hn : n ≤ 1000) (hN : N ≤ 1000) (hb : bs.length = n) (hr : Has w A (ints .u8 bs)) (h256 : ∀ x ∈ bs, x < 256) :
    Calls Tryz.prog 9 #[.slice A n c, .int .i64 t, .int .i64 N] w (ColPost t N w) := by
  obtain ⟨g, hg⟩ : ∃ g, g = w.heap.size := ⟨_, rfl⟩
  have B1 := Blk.new w #[.slice A n c, .int .i64 0] 71 g hg
  have L1 := Later.new w (.cells #[.slice A n c, .int .i64 0] 71)
  have HG := Lib.hid hg
  go_enter Tryz.func9, Tryz.ntmps9
  go_wp2_with (go_at_call 22; refine (made_any A n c _).mono ?_; rintro e w1 ⟨rfl, hw1⟩; rw [hw1] at B1 L1; clear hw1)
  rw [← HG.out]
  clear hg
  go_loopw [8, 9] (fun lv iv wr => ColInv t N g A n c w lv iv wr) (fun _ i _ => N - (intOf i).toNat)
  case atStart => exact ColInv.mk [] none 0 0 0 0 0 rfl rfl (Nat.zero_le _) rfl (Nat.zero_le _) (fun x hx => by cases hx) (fun x hx => by cases hx) (ownG_nil _ _ _ _) B1 L1
  case round =>
    obtain ⟨l, L, cl, j, k, rfl, rfl, hj, hlj, hk, hok, ha, hown, hpk, lat⟩ := hrel
    clear B1 L1
    by_cases hlt : j < N
    · have HV := Lib.hid (value_anyN t g A n c k bs wr hpk hn hk hb (by have h := Rd.below hr lat.below; rw [← HG.out] at h; exact h) h256)
      have HOK := Lib.hid hok
      have HA := Lib.hid ha
      have HOWN := Lib.hid hown
      have HLAT := Lib.hid lat
      have HR := Lib.hid hr
      have H256 := Lib.hid h256
      have HLJ := Lib.hid hlj
      have hlen : l.length ≤ 1000 := by omega
      clear hok ha hown lat hr h256 hpk hlj
      go_wp2_with fail
      refine HV.out.mono ?_
      rintro e w2 ⟨vt, i, s, k', hk', rfl, hv, ⟨pk, far⟩, -⟩
      have L2 := Lib.hid (Later.of (Below.trans HLAT.out.below (HG.out ▸ far.2.1)) : Later w w2)
      have O2 := Lib.hid (far.own (Nat.lt_succ_self g) HOWN.out)
      have hty := tyOf_is t
      have HF := Lib.hid (show FitsV (tyOf t) vt i s.size by
        refine ⟨hty.1, hty.2, ?_⟩
        rcases hv with ⟨rfl, rfl, rfl⟩ | ⟨rfl, h, _⟩
        · exact ⟨.inl rfl, .inl ⟨rfl, rfl, rfl⟩⟩
        · exact ⟨.inr rfl, h⟩)
      have H64 := Lib.hid (show In64 i by
        rcases hv with ⟨_, rfl, _⟩ | ⟨_, _, h⟩
        · unfold In64; decide
        · exact h)
      have HAS := Lib.hid ((Blk.new w2 (fl [(vt, i, s)]).toArray 26 w2.heap.size rfl).has)
      have P3 := Lib.hid (pk.later (Later.new w2 (.cells (fl [(vt, i, s)]).toArray 26)))
      have L3 := Lib.hid (L2.out.alloc (.cells (fl [(vt, i, s)]).toArray 26))
      clear hv pk far HV HLAT HOWN hty
      go_wp2_with (at_builtin; refine wpList_append_g _ rfl (.tmp 17) (.tmp 21) 23 rfl (g + 1) 26 (vagg 0 0 ⟨#[]⟩) 3 32 Tryz.underlying23 info_v rfl (by decide) _ l.length (fl l) rfl (O2.out.alloc _) _ 1 1 (fl [(vt, i, s)]) rfl HAS.out (by rfl) (by intro h; cases h) (fl_one _) (by unfold maxLen; omega) (by omega) ?_ ?_; (have h := P3.out.lt; exact h); intro A2 c2 w6 o2 g2 b2 n2; have HO2 := Lib.hid o2; have HB6 := Lib.hid b2; have HN2 := Lib.hid n2; clear o2 g2 b2 n2)
      go_roundw
      case rel =>
        refine ColInv.mk (l ++ [(vt, i, s)]) A2 _ c2 k' _ (j + 1) (by rw [List.length_append]; rfl) (by omega) hlt (by rw [List.length_append, HLJ.out]; rfl) hk' ?_ ?_ (by rw [fl_append]; exact HO2.out) ((Below.block HB6.out g (Nat.lt_succ_self g)).trans P3.out) (Later.of (Below.trans L3.out.below (Below.mono HB6.out (by rw [HG.out]; exact Nat.le_succ _))))
        · intro x hx
          rcases List.mem_append.1 hx with hx | hx
          · exact HOK.out x hx
          · rw [List.mem_singleton] at hx; subst hx; exact HF.out
        · intro x hx
          rcases List.mem_append.1 hx with hx | hx
          · exact HA.out x hx
          · rw [List.mem_singleton] at hx; subst hx; exact H64.out
      case measure => simp [intOf]; omega
    · have HO := Lib.hid (Has.ownG hown)
      have HLJ := Lib.hid (show l.length = N by omega)
      have H1 := Lib.hid (ownG_cap hown)
      have H2 := Lib.hid (ownG_capmax hown)
      have H3 := Lib.hid (ownG_shape hown)
      have HOK := Lib.hid hok
      have HA := Lib.hid ha
      have HLAT := Lib.hid lat
      clear hok ha hown lat hr h256 hpk hlj
      go_wp2_with fail
      go_ret
      refine ⟨l, L, cl, rfl, HO.out, HOK.out, HA.out, HLJ.out, H1.out, H2.out, ?_, HLAT.out⟩
      obtain ⟨A', c', h1, h2⟩ := H3.out
      injection h1 with h3 h4 h5
      subst h3 h5
      exact h2

def two10 : List Val3 := [(2, 5, ⟨#[]⟩), (0, 0, ⟨#[]⟩)]
theorem two10_64 : All64 two10 := by unfold All64 In64 two10; decide
theorem two10_put : putC 5 2 two10 = some [5, 1, 2, 10] := by decide
theorem two10_take : takeC10 2 2 [5, 1, 2, 10] = some (two10, 5) := takeC10_put (l := two10) (enc := 5) (t := 2) (u := 5) (by decide) two10_64 (by decide) two10_put

set_option maxRecDepth 100000 in
set_option maxHeartbeats 1000000 in
theorem begun10_any (w : World) (hs : S10 w) : Calls Tryz.prog 4 #[] w fun e w' => e = .returned (.bool true) ∧ Later w w' := by
  have l1 := Later.new w (.cells (fl two10).toArray 26)
  have B1 := Blk.new w (fl two10).toArray 26 _ rfl
  have HP := Lib.hid (colPut_any 5 2 (some ⟨w.heap.size, 0, none⟩) 2 2 two10 _ rfl (hs.s6.later l1) (by decide) B1.has two10_64)
  have HL := Lib.hid l1
  have HS := Lib.hid (hs.later l1)
  clear l1 B1 hs
  go_enter Tryz.func4, Tryz.ntmps4
  go_wp2_with fail
  refine HP.out.mono ?_
  intro e w2 h
  obtain ⟨A, c, rfl, r2, hc1, hc2, hc3, l2⟩ := h.yes two10_put
  have HL2 := Lib.hid (HL.out.trans l2)
  have S2 := HS.out.later l2
  have HT := Lib.hid (colTake_any 2 2 A 4 c [5, 1, 2, 10] w2 S2 rfl r2 (by decide) (by decide) hc1 hc2)
  have HS2 := Lib.hid S2
  have HR2 := Lib.hid r2
  clear h r2 hc1 hc2 hc3 l2 S2 HP HS HL
  go_wp2_with fail
  refine HT.out.mono ?_
  intro e w3 h
  obtain ⟨X, cx, rfl, hx, l3⟩ := h.yes two10_take
  obtain ⟨b, off, rfl, d0, _, _⟩ := hx.val3 1 (by decide)
  have d0' : w3.cell? ⟨b, off + 3, none⟩ = some (.int .i64 0) := d0
  have r3 := HR2.out.later l3
  obtain ⟨ab, ao, hA, e0, e1, e2⟩ : ∃ ab ao, A = some ⟨ab, ao, none⟩ ∧ w3.cell? ⟨ab, ao, none⟩ = some (.int .u8 5) ∧ w3.cell? ⟨ab, ao + 1, none⟩ = some (.int .u8 1) ∧ w3.cell? ⟨ab, ao + 2, none⟩ = some (.int .u8 2) := by
    rcases r3 with h | ⟨ab, ao, h, _, hc⟩
    · cases h
    · exact ⟨ab, ao, h, hc 0 _ rfl, hc 1 _ rfl, hc 2 _ rfl⟩
  subst hA
  have HL3 := Lib.hid (HL2.out.trans l3)
  have HU := Lib.hid (colUsed_yes 5 4 3 w3 (by decide))
  clear h hx d0 l3 r3 HT HS2 HL2 HR2
  have hlen2 : ([5, 1, 2, 10] : List Nat).length = 4 := by decide
  have hlen3 : two10.length = 2 := by decide
  go_wp2_with (go_at_call 5; refine HU.out.mono ?_; rintro e w' ⟨rfl, rfl⟩)
  go_ret
  exact ⟨rfl, HL3.out⟩

end Go.Proofs.YtldalkhmbpkjpaaGreatDoor
