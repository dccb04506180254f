/- The walk of some, of law 7. -/
import Derived.Test.YtfcedbhmbcbiaaaGreatDoorSome
import Derived.Maps.AppendAt
namespace Go.Proofs.YtfcedbhmbcbiaaaGreatDoor
open Go.RowKit
set_option linter.unusedVariables false

set_option maxRecDepth 100000 in
set_option maxHeartbeats 2000000 in
theorem some_7 (t : Int) (N : Nat) (A : Option Addr) (n c : Nat) (bs : List Nat) (w : World) (hn : n ≤ 1000) (hN : N ≤ 1000) (hb : bs.length = n) (hr : Has w A (ints .u8 bs)) (h256 : ∀ x ∈ bs, x < 256) :
    Calls Tryz.prog 6 #[.slice A n c, .int .i64 t, .int .i64 N] w (SomePost t N w) := by
  obtain ⟨g, hg⟩ : ∃ g, g = w.heap.size := ⟨_, rfl⟩
  have B1 := Blk.new w #[.slice A n c, .int .i64 0] 61 g hg
  have L1 := Later.new w (.cells #[.slice A n c, .int .i64 0] 61)
  have HG := Lib.hid hg
  go_enter Tryz.func6, Tryz.ntmps6
  go_wp2_with (go_at_call 14; refine (made_any A n c _).mono ?_; rintro e w1 ⟨rfl, hw1⟩; rw [hw1] at B1 L1; clear hw1)
  rw [← HG.out]
  clear hg
  go_loopw [8, 9] (fun lv iv wr => SomeInv t N g A n c w lv iv wr) (fun _ i _ => N - (intOf i).toNat)
  case atStart => exact SomeInv.mk [] none 0 0 0 0 0 rfl rfl (Nat.zero_le _) (Nat.zero_le _) (Nat.zero_le _) (fun x hx => by cases hx) (fun x hx => by cases hx) (ownG_nil _ _ _ _) B1 L1
  case round =>
    obtain ⟨l, L, cl, j, k, rfl, rfl, hj, hlj, hk, hok, ha, hown, hpk, lat⟩ := hrel
    clear B1 L1
    by_cases hlt : j < N
    · have HV := Lib.hid (value_any t g A n c k bs wr hpk hn hk hb (by have h := Rd.below hr lat.below; rw [← HG.out] at h; exact h) h256)
      have HOK := Lib.hid hok
      have HA := Lib.hid ha
      have HOWN := Lib.hid hown
      have HLAT := Lib.hid lat
      have HR := Lib.hid hr
      have H256 := Lib.hid h256
      clear hok ha hown lat hr h256 hpk
      go_wp2_with fail
      refine HV.out.mono ?_
      rintro e w2 ⟨vt, i, s, k', hk', rfl, hv, pk, far⟩
      have L2 := Lib.hid (Later.of (Below.trans HLAT.out.below (HG.out ▸ far.2.1)) : Later w w2)
      have O2 := Lib.hid (far.own (Nat.lt_succ_self g) HOWN.out)
      have P2 := Lib.hid pk
      clear pk far HV HLAT HOWN
      by_cases hvt : vt = 0
      · subst hvt
        have P3 := Lib.hid (P2.out.later (Later.new w2 (.cells #[.int .i64 0, .int .i64 i, .string s] 26)))
        have L3 := Lib.hid (L2.out.alloc (.cells #[.int .i64 0, .int .i64 i, .string s] 26))
        have O3 := Lib.hid (O2.out.alloc (.cells #[.int .i64 0, .int .i64 i, .string s] 26))
        clear hv
        go_wp2_with fail
        go_roundw
        case rel => exact SomeInv.mk l L _ cl k' _ (j + 1) rfl (by omega) hlt (by omega) hk' HOK.out HA.out O3.out P3.out L3.out
        case measure => simp [intOf]; omega
      · obtain ⟨rfl, hm, h64⟩ : vt = tyOf t ∧ MayV vt i s.size ∧ In64 i := by
          rcases hv with h | h
          · exact absurd h hvt
          · exact h
        generalize htt : tyOf t = T at *
        have hT0 : T ≠ 0 := hvt
        have HM := Lib.hid hm
        have H64 := Lib.hid h64
        have HAS := Lib.hid ((Blk.new (w2.alloc (.cells #[.int .i64 T, .int .i64 i, .string s] 26)) (fl [(T, i, s)]).toArray 26 (w2.heap.size + 1) (by simp)).has)
        have P3 := Lib.hid ((P2.out.later (Later.new w2 (.cells #[.int .i64 T, .int .i64 i, .string s] 26))).later (Later.new _ (.cells (fl [(T, i, s)]).toArray 26)))
        have L3 := Lib.hid ((L2.out.alloc (.cells #[.int .i64 T, .int .i64 i, .string s] 26)).alloc (.cells (fl [(T, i, s)]).toArray 26))
        have hlen : l.length ≤ 1000 := by omega
        clear hv hm h64 hvt
        go_wp2_with (at_builtin; refine wpList_append_g _ rfl (.tmp 24) (.tmp 26) 23 rfl (g + 1) 26 (vagg 0 0 ⟨#[]⟩) 3 32 Tryz.underlying23 info_v rfl (by decide) _ l.length (fl l) rfl ((O2.out.alloc _).alloc _) _ 1 1 (fl [(T, i, s)]) rfl HAS.out (by rfl) (by intro h; cases h) (fl_one _) (by unfold maxLen; omega) (by omega) ?_ ?_; (have h := P3.out.lt; exact h); intro A2 c2 w6 o2 g2 b2 n2; have HO2 := Lib.hid o2; have HB6 := Lib.hid b2; have HN2 := Lib.hid n2; clear o2 g2 b2 n2)
        go_roundw
        case rel =>
          refine SomeInv.mk (l ++ [(T, i, s)]) A2 _ c2 k' _ (j + 1) (by rw [List.length_append]; rfl) (by omega) hlt (by rw [List.length_append]; simp; omega) hk' ?_ ?_ (by rw [fl_append]; exact HO2.out) ((Below.block HB6.out g (Nat.lt_succ_self g)).trans P3.out) (Later.of (Below.trans L3.out.below (Below.mono HB6.out (by rw [HG.out]; exact Nat.le_succ _))))
          · intro x hx
            rw [htt]
            rcases List.mem_append.1 hx with hx | hx
            · exact HOK.out x hx
            · rw [List.mem_singleton] at hx; subst hx; exact ⟨rfl, HM.out⟩
          · intro x hx
            rcases List.mem_append.1 hx with hx | hx
            · exact HA.out x hx
            · rw [List.mem_singleton] at hx; subst hx; exact H64.out
        case measure => simp [intOf]; omega
    · have HO := Lib.hid (Has.ownG hown)
      have H1 := Lib.hid (ownG_cap hown)
      have H2 := Lib.hid (ownG_capmax hown)
      have H3 := Lib.hid (ownG_shape hown)
      have HOK := Lib.hid hok
      have HA := Lib.hid ha
      have HLAT := Lib.hid lat
      clear hok ha hown lat hr h256 hpk
      go_wp2_with fail
      go_ret
      refine ⟨l, L, cl, rfl, HO.out, HOK.out, HA.out, by omega, H1.out, H2.out, ?_, HLAT.out⟩
      obtain ⟨A', c', h1, h2⟩ := H3.out
      injection h1 with h3 h4 h5
      subst h3 h5
      exact h2

end Go.Proofs.YtfcedbhmbcbiaaaGreatDoor
