/- The walk of RleRuns. -/
import Derived.Test.YtifejanbgobngaaDoorRleLaw
namespace Go.Proofs.YtifejanbgobngaaDoor
open Go.RowKit
set_option linter.unusedVariables false

/-- The one value. -/
abbrev rx (v : Int) : Val3 := (2, v, ⟨#[]⟩)
theorem putNum_900 : ∀ k : Nat, k ≤ 900 → (putNum k).length ≤ 2 := by
  intro k hk
  unfold putNum putAux
  split
  · unfold putAux
    rw [if_neg (by omega)]
    simp
  · simp
theorem rep_ok (v : Int) (k : Nat) : OkL 2 (List.replicate k (rx v)) := fun x hx => by
  rw [(List.mem_replicate.1 hx).2]
  exact ⟨rfl, by unfold MayV; right; right; left; exact ⟨rfl, rfl⟩⟩
theorem rep_put (v : Int) (k : Nat) (hk : 1 ≤ k) : putL 2 (List.replicate k (rx v)) = some (putNum k ++ oneB 2 v ⟨#[]⟩) := by
  unfold putL
  rw [if_pos ⟨by omega, rep_ok v k⟩]
  have h := rleB_rep (rx v) k hk [] (by simp)
  rw [List.append_nil, rleB_nil, List.append_nil] at h
  rw [h]
def RunInv (v : Int) (k : Nat) (w : World) (lv iv : Value) (wr : World) : Prop :=
  ∃ (L : Option Addr) (cl j : Nat), lv = .slice L j cl ∧ iv = .int .i64 (j : Int) ∧ j ≤ k ∧ wr.ownsRow w.heap.size 26 3 (.slice L j cl) j (fl (List.replicate j (rx v))) ∧ Later w wr
theorem RunInv.mk {v : Int} {k : Nat} {w wr : World} (L : Option Addr) (cl m j : Nat) (i : Int) (hm : m = j) (hi : i = (j : Int)) (h1 : j ≤ k) (h2 : wr.ownsRow w.heap.size 26 3 (.slice L m cl) m (fl (List.replicate j (rx v)))) (h3 : Later w wr) : RunInv v k w (.slice L m cl) (.int .i64 i) wr := by
  subst hm hi; exact ⟨L, cl, m, rfl, rfl, h1, h2, h3⟩

set_option maxRecDepth 100000 in
set_option maxHeartbeats 2000000 in
theorem rleRuns_walk (n : Nat) (v : Int) (w : World) (hs : S6 w) (hn : n < 65536) (h64 : In64 v) :
    Calls Tryd.prog 11 #[.int .u16 n, .int .i64 v] w fun e w' => e = .returned (.bool true) ∧ Later w w' := by
  have HB := Lib.hid (begun6_any w hs)
  have HS := Lib.hid hs
  obtain ⟨k, hk⟩ : ∃ k : Nat, k = 1 + n % 900 := ⟨_, rfl⟩
  have hk1 : 1 ≤ k := by omega
  have hk9 : k ≤ 900 := by omega
  have HK := Lib.hid (show 1 + (n : Int) % 900 = (k : Int) by omega)
  have HI := Lib.hid h64
  clear hs hk h64
  go_enter Tryd.func11, Tryd.ntmps11
  go_wp2_with fail
  refine HB.out.mono ?_
  rintro e w1 ⟨rfl, l1⟩
  have HL1 := Lib.hid l1
  clear l1 HB
  go_wp2_with fail
  rw [HK.out]
  go_loopw [6, 7] (fun lv iv wr => RunInv v k w lv iv wr) (fun _ iv _ => k - (intOf iv).toNat)
  case atStart => exact RunInv.mk none 0 0 0 0 rfl rfl (Nat.zero_le _) (ownG_nil _ _ _ _) HL1.out
  case round =>
    obtain ⟨L, cl, j, rfl, rfl, hj, hown, lat⟩ := hrel
    by_cases hlt : j < k
    · have HAS := Lib.hid ((Blk.new wr (fl [(rx v)]).toArray 26 _ rfl).has)
      have O2 := Lib.hid (hown.alloc (.cells (fl [(rx v)]).toArray 26))
      have LT2 := Lib.hid (lat.alloc (.cells (fl [(rx v)]).toArray 26))
      have HREP := Lib.hid (show List.replicate (j + 1) (rx v) = List.replicate j (rx v) ++ [(rx v)] from List.replicate_succ')
      clear hown lat
      go_wp2_with (at_builtin; refine wpList_append_g _ rfl (.tmp 25) (.tmp 28) 23 rfl w.heap.size 26 (vagg 0 0 ⟨#[]⟩) 3 32 Tryd.underlying23 info_v rfl (by decide) _ j (fl (List.replicate j (rx v))) rfl O2.out _ 1 1 (fl [(rx v)]) rfl HAS.out (by rfl) (by intro h; cases h) (fl_one _) (by unfold maxLen; omega) (by omega) LT2.out.size ?_; intro A2 c2 w6 o2 g2 b2 n2; have HO2 := Lib.hid o2; have HB6 := Lib.hid b2; clear o2 g2 b2 n2)
      go_roundw
      case rel => exact RunInv.mk A2 c2 _ (j + 1) _ rfl (by omega) hlt (by rw [HREP.out, fl_append]; exact HO2.out) (Later.of (LT2.out.below.trans HB6.out))
      case measure => simp [intOf]; omega
    · obtain rfl : j = k := by omega
      obtain ⟨l, hl⟩ : ∃ l, l = List.replicate j (rx v) := ⟨_, rfl⟩
      have hll : l.length = j := by rw [hl, List.length_replicate]
      rw [← hl] at hown
      have HLL := Lib.hid hll
      have HLE := Lib.hid hl
      have hcap := ownG_cap hown
      have hcm := ownG_capmax hown
      have HAS := Lib.hid (Has.ownG hown)
      have HLAT := Lib.hid lat
      have H64L := Lib.hid (show All64 l from fun x hx => by rw [hl] at hx; rw [(List.mem_replicate.1 hx).2]; exact HI.out)
      obtain ⟨pb, hpb⟩ : ∃ pb, pb = putNum j ++ oneB 2 v ⟨#[]⟩ := ⟨_, rfl⟩
      obtain ⟨qb, hqb⟩ : ∃ qb, qb = putNum 1 ++ oneB 2 v ⟨#[]⟩ := ⟨_, rfl⟩
      have HPUT := Lib.hid (show putL 2 l = some pb by rw [hl, hpb]; exact rep_put v j hk1)
      have HPUT1 := Lib.hid (show putL 2 [(rx v)] = some qb by rw [hqb]; exact rep_put v 1 (by omega))
      have HOK := Lib.hid (show OkL 2 l by rw [hl]; exact rep_ok v j)
      have hle : pb.length ≤ qb.length + 1 := by
        rw [hpb, hqb, List.length_append, List.length_append]
        have h1 := putNum_900 j hk9
        have h2 := putNum_pos 1
        omega
      have H256 := Lib.hid (putL_lt (by rw [hll]; omega) HOK.out H64L.out HPUT.out)
      have hpl := putL_le HOK.out HPUT.out
      have hql : qb.length ≤ 31 := putL_le (rep_ok v 1) HPUT1.out
      have HTAKE := Lib.hid (takeL_put (t := 2) (by omega) HOK.out H64L.out (by rw [hll]; omega) HPUT.out)
      have HP := Lib.hid (rlePut_any 2 L cl l wr (HS.out.later lat) (by rw [hll]; omega) HAS.out H64L.out (by rw [hll]; exact hcap) hcm)
      rw [hll] at HP HTAKE hpl
      have hi1 : (1 : Int) ≤ (cl : Int) := by omega
      have hi2 : (0 : Int) < (j : Int) := by omega
      clear hown lat hl hpb hqb hll
      go_wp2_with fail
      refine HP.out.mono ?_
      intro e w2 h
      obtain ⟨PA, pc, rfl, ph, hp1, hp2, _, l2⟩ := h.yes HPUT.out
      have HPH := Lib.hid ph
      have HL2 := Lib.hid (HLAT.out.trans l2)
      have HP1 := Lib.hid (rlePut_any 2 L cl [(rx v)] w2 (HS.out.later HL2.out) (by simp) (by
        have h := (HAS.out.later l2).take 3
        rw [← fl_take l 1] at h
        have e : l.take 1 = [(rx v)] := by
          rw [HLE.out]
          obtain ⟨q, rfl⟩ : ∃ q, j = q + 1 := ⟨j - 1, by omega⟩
          rfl
        rw [e] at h
        exact h) (fun x hx => by rw [List.mem_singleton] at hx; rw [hx]; exact HI.out) (by show 1 ≤ cl; omega) hcm)
      clear h ph l2 HP
      go_wp2_with fail
      refine HP1.out.mono ?_
      intro e w3 h
      obtain ⟨QA, qc, rfl, _, _, _, _, l3⟩ := h.yes HPUT1.out
      have HL3 := Lib.hid (HL2.out.trans l3)
      have HTK := Lib.hid (rleTake_any 2 (j : Int) PA pc pb w3 (HS.out.later HL3.out) (HPH.out.later l3) H256.out (by omega) hp1 hp2)
      clear h l3 HP1 HPH
      go_wp2_with fail
      refine HTK.out.mono ?_
      intro e w4 h
      obtain ⟨XA, xc, rfl, xh, l4⟩ := h.yes HTAKE.out
      have hlast : j - 1 < l.length := by have := HLL.out; omega
      obtain ⟨b, off, rfl, cx0, c1, cx2⟩ := xh.val3 (j - 1) hlast
      clear cx0 cx2
      have hv : l[j - 1].2.1 = v := by
        have e := HLE.out
        subst e
        simp
      rw [hv] at c1
      obtain ⟨jj, hjj⟩ : ∃ jj, jj = j - 1 := ⟨_, rfl⟩
      rw [← hjj] at c1
      have hj1 : (j : Int) - 1 = (jj : Int) := by omega
      have hw1 : IntKind.i64.wrap (jj : Int) = (jj : Int) := IntWalk.i64_in _ ⟨by omega, by omega⟩
      have hw2 : IntKind.i64.wrap ((j : Int) - 1) = (jj : Int) := by rw [hj1]; exact hw1
      have hi3 : (0 : Int) ≤ (jj : Int) := by omega
      have hi4 : (jj : Int) < (j : Int) := by omega
      have hi5 : jj < j := by omega
      have hlei : (pb.length : Int) ≤ (qb.length : Int) + 1 := by omega
      have HL4 := Lib.hid (HL3.out.trans l4)
      have hlj : l.length = j := HLL.out
      clear h xh l4 HTK hlast hv hjj
      go_wp2_with fail
      go_ret
      exact ⟨rfl, HL4.out⟩
end Go.Proofs.YtifejanbgobngaaDoor
