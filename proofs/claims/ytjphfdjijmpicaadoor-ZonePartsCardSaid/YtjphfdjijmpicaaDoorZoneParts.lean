/- The walk of ZoneParts. -/
import Derived.Test.YtjphfdjijmpicaaDoorZonePlay
import Derived.Test.YtjphfdjijmpicaaDoorKripke
import Derived.Deep.RegionHeld3
namespace Go.Proofs.YtjphfdjijmpicaaDoor
open Go.RowKit
set_option linter.unusedVariables false

set_option maxRecDepth 100000 in
theorem zoneParts_long (t : Int) (A : Option Addr) (n c : Nat) (at_ : Int) (w : World) (hs : S11 w) (h : 60 < n) :
    Calls Tryd.prog 3 #[.int .u8 t, .slice A n c, .int .u8 at_] w fun e w' => e = .returned (.bool true) ∧ Later w w' := by
  have HB := Lib.hid (begun11_any w hs)
  clear hs
  go_enter Tryd.func3, Tryd.ntmps3
  go_wp2_with fail
  refine HB.out.mono ?_
  rintro e w1 ⟨rfl, l1⟩
  go_wp2_with fail
  go_ret
  exact ⟨rfl, l1⟩

abbrev zset (w : World) (g : Nat) (n : Int) (a b : Val3) : World := ((((((w.setCell ⟨g, 0, none⟩ (.int .i64 n)).setCell ⟨g, 1, none⟩ (.int .i64 a.1)).setCell ⟨g, 2, none⟩ (.int .i64 a.2.1)).setCell ⟨g, 3, none⟩ (.string a.2.2)).setCell ⟨g, 4, none⟩ (.int .i64 b.1)).setCell ⟨g, 5, none⟩ (.int .i64 b.2.1)).setCell ⟨g, 6, none⟩ (.string b.2.2)
theorem zput {w : World} {g : Nat} (n : Int) (a b : Val3) (Z : Blk w g (zc 0 0 0 ⟨#[]⟩ 0 0 ⟨#[]⟩) 31) : Blk (zset w g n a b) g (zc n a.1 a.2.1 a.2.2 b.1 b.2.1 b.2.2) 31 :=
  ((((((Z.set_ 0 (.int .i64 n)).set_ 1 (.int .i64 a.1)).set_ 2 (.int .i64 a.2.1)).set_ 3 (.string a.2.2)).set_ 4 (.int .i64 b.1)).set_ 5 (.int .i64 b.2.1)).set_ 6 (.string b.2.2)
theorem zset_far {w : World} {h : Nat} {cs : Array Value} {t : TypeId} (g : Nat) (n : Int) (a b : Val3) (Z : Blk w h cs t) (hne : h ≠ g) : Blk (zset w g n a b) h cs t :=
  ((((((Z.far (p := ⟨g, 0, none⟩) hne _).far (p := ⟨g, 1, none⟩) hne _).far (p := ⟨g, 2, none⟩) hne _).far (p := ⟨g, 3, none⟩) hne _).far (p := ⟨g, 4, none⟩) hne _).far (p := ⟨g, 5, none⟩) hne _).far (p := ⟨g, 6, none⟩) hne _
theorem zset_later {w0 w : World} (g : Nat) (n : Int) (a b : Val3) (h : Later w0 w) (hb : w0.heap.size ≤ g) : Later w0 (zset w g n a b) :=
  ((((((h.set_ (p := ⟨g, 0, none⟩) hb _).set_ (p := ⟨g, 1, none⟩) hb _).set_ (p := ⟨g, 2, none⟩) hb _).set_ (p := ⟨g, 3, none⟩) hb _).set_ (p := ⟨g, 4, none⟩) hb _).set_ (p := ⟨g, 5, none⟩) hb _).set_ (p := ⟨g, 6, none⟩) hb _

set_option maxRecDepth 100000 in
set_option maxHeartbeats 4000000 in
theorem zoneParts_walk (t : Nat) (A : Option Addr) (n c : Nat) (bs : List Nat) (at_ : Nat) (w : World) (hs : S11 w) (ht : t < 256) (hat : at_ < 256) (hb : bs.length = n) (hn : n ≤ 60) (hr : Has w A (ints .u8 bs)) (h256 : ∀ x ∈ bs, x < 256) :
    Calls Tryd.prog 3 #[.int .u8 t, .slice A n c, .int .u8 at_] w fun e w' => e = .returned (.bool true) ∧ Later w w' := by
  have HB := Lib.hid (begun11_any w hs)
  obtain ⟨T, hT⟩ : ∃ T : Int, T = 1 + (t : Int) % 4 := ⟨_, rfl⟩
  obtain ⟨q, hq⟩ : ∃ q : Nat, q = at_ % 21 := ⟨_, rfl⟩
  have hqq : (at_ : Int) % 21 = (q : Int) := by omega
  have hq20 : q ≤ 20 := by omega
  have hT4 : 1 ≤ T ∧ T ≤ 4 := by omega
  have HT := Lib.hid hT.symm
  have HR := Lib.hid hr
  have H256 := Lib.hid h256
  have HBS := Lib.hid hb
  have HQQ := Lib.hid hqq
  clear hs hr h256 hb hT hq
  go_enter Tryd.func3, Tryd.ntmps3
  go_wp2_with fail
  refine HB.out.mono ?_
  rintro e w1 ⟨rfl, l1⟩
  have HL1 := Lib.hid l1
  have HR1 := Lib.hid (HR.out.later l1)
  obtain ⟨g, hg⟩ : ∃ g, g = w1.heap.size := ⟨_, rfl⟩
  have B1 := Blk.new w1 #[.slice A n c, .int .i64 0] 40 g hg
  have L1 := Later.new w1 (.cells #[.slice A n c, .int .i64 0] 40)
  have HG := Lib.hid hg
  clear l1 HB HR hqq
  go_wp2_with (go_at_call 5; refine (made_any A n c _).mono ?_; rintro e w2 ⟨rfl, hw2⟩; rw [hw2] at B1 L1; clear hw2)
  rw [← HG.out, HT.out]
  clear hg
  go_loopw [9, 10] (fun lv iv wr => ZcInv T 20 g A n c w1 lv iv wr) (fun _ i _ => 20 - (intOf i).toNat)
  case atStart => exact ZcInv.mk [] none 0 0 0 0 0 rfl rfl (Nat.zero_le _) rfl (Nat.zero_le _) (fun x hx => by cases hx) (fun x hx => by cases hx) (ownG_nil _ _ _ _) B1 L1
  case round =>
    obtain ⟨l, L, cl, j, k, rfl, rfl, hj, hlj, hk, hok, ha, hown, hpk, lat⟩ := hrel
    clear B1 L1
    by_cases hlt : j < 20
    · have HV := Lib.hid (value_anyN T g A n c k bs wr hpk (by omega) hk HBS.out (by have h := Rd.below HR1.out lat.below; rw [← HG.out] at h; exact h) H256.out)
      have HOK := Lib.hid hok
      have HA := Lib.hid ha
      have HOWN := Lib.hid hown
      have HLAT := Lib.hid lat
      have HLJ := Lib.hid hlj
      have hlen : l.length ≤ 1000 := by omega
      clear hok ha hown lat hpk hlj
      go_wp2_with fail
      refine HV.out.mono ?_
      rintro e w2 ⟨vt, i, s, k', hk', rfl, hv, pk, far⟩
      have L2 := Lib.hid (Later.of (Below.trans HLAT.out.below (HG.out ▸ far.2.1)) : Later w1 w2)
      have O2 := Lib.hid (far.own (Nat.lt_succ_self g) HOWN.out)
      have HF := Lib.hid (kind3_made hT4 hv)
      have HAS := Lib.hid ((Blk.new w2 (fl [(vt, i, s)]).toArray 28 w2.heap.size rfl).has)
      have P3 := Lib.hid (pk.later (Later.new w2 (.cells (fl [(vt, i, s)]).toArray 28)))
      have L3 := Lib.hid (L2.out.alloc (.cells (fl [(vt, i, s)]).toArray 28))
      clear hv pk far HV HLAT HOWN
      go_wp2_with (at_builtin; refine wpList_append_g _ rfl (.tmp 31) (.tmp 35) 26 rfl (g + 1) 28 (vagg 0 0 ⟨#[]⟩) 3 32 Tryd.underlying26 info_v rfl (by decide) _ l.length (fl l) rfl (O2.out.alloc _) _ 1 1 (fl [(vt, i, s)]) rfl HAS.out (by rfl) (by intro h; cases h) (fl_one _) (by unfold maxLen; omega) (by omega) ?_ ?_; (have h := P3.out.lt; exact h); intro A2 c2 w4 o2 _ b2 _; have HO2 := Lib.hid o2; have HB6 := Lib.hid b2; clear o2 b2)
      go_roundw
      case rel =>
        refine ZcInv.mk (l ++ [(vt, i, s)]) A2 _ c2 k' _ (j + 1) (by rw [List.length_append]; rfl) (by omega) hlt (by rw [List.length_append, HLJ.out]; rfl) hk' ?_ ?_ (by rw [fl_append]; exact HO2.out) ((Below.block HB6.out g (Nat.lt_succ_self g)).trans P3.out) (Later.of (Below.trans L3.out.below (Below.mono HB6.out (by rw [HG.out]; exact Nat.le_succ _))))
        · intro x hx
          rcases List.mem_append.1 hx with hx | hx
          · exact HOK.out x hx
          · rw [List.mem_singleton] at hx; subst hx; exact HF.out.1
        · intro x hx
          rcases List.mem_append.1 hx with hx | hx
          · exact HA.out x hx
          · rw [List.mem_singleton] at hx; subst hx; exact HF.out.2
      case measure => simp [intOf]; omega
    · obtain rfl : j = 20 := by omega
      have hcap := ownG_cap hown
      have hcmx := ownG_capmax hown
      obtain ⟨gb, rfl⟩ : ∃ gb, L = some ⟨gb, 0, none⟩ := by
        rcases hown.2 with ⟨h1, _⟩ | ⟨gb, _, _, h1, _⟩
        · injection h1 with _ h2 _; omega
        · injection h1 with h2 h3 h4; exact ⟨gb, h2⟩
      have HH := Lib.hid (Has.ownG hown)
      have hla : l = l.take q ++ l.drop q := (List.take_append_drop q l).symm
      have HA1 := Lib.hid (fun w' (lz : Later wr w') => zoneOf_any (some ⟨gb, 0, none⟩) q cl (l.take q) w' (by rw [List.length_take]; omega) (by rw [List.length_take]; omega) (by rw [fl_take]; exact ((HH.out.later lz).take (q * 3))))
      have HA2 := Lib.hid (fun w' (lz : Later wr w') => zoneOf_any (some ⟨gb, q * 3, none⟩) (20 - q) (cl - q) (l.drop q) w' (by rw [List.length_drop]; omega) (by rw [List.length_drop]; omega) (by rw [fl_drop]; have h := (HH.out.later lz).drop (q * 3); rw [Nat.zero_add] at h; exact h))
      have HA3 := Lib.hid (fun w' (lz : Later wr w') => zoneOf_any (some ⟨gb, 0, none⟩) 20 cl l w' hlj.symm (by omega) (HH.out.later lz))
      have HA2b := Lib.hid (fun (hq : 20 ≤ q) (w' : World) (lz : Later wr w') => zoneOf_any (some ⟨gb, 0, none⟩) (20 - q) (cl - q) (l.drop q) w' (by rw [List.length_drop]; omega) (by rw [List.length_drop]; omega) (by rw [List.drop_of_length_le (by omega)]; exact Has.nil_))
      obtain ⟨la, hla1⟩ : ∃ x, lowZs none3 (l.take q) = x := ⟨_, rfl⟩
      obtain ⟨ta, hta1⟩ : ∃ x, topZs none3 (l.take q) = x := ⟨_, rfl⟩
      obtain ⟨lb, hlb1⟩ : ∃ x, lowZs none3 (l.drop q) = x := ⟨_, rfl⟩
      obtain ⟨tb, htb1⟩ : ∃ x, topZs none3 (l.drop q) = x := ⟨_, rfl⟩
      obtain ⟨lz, hlz1⟩ : ∃ x, lowZs none3 l = x := ⟨_, rfl⟩
      obtain ⟨tz, htz1⟩ : ∃ x, topZs none3 l = x := ⟨_, rfl⟩
      obtain ⟨na, hna1⟩ : ∃ x, nullsZ (l.take q) = x := ⟨_, rfl⟩
      obtain ⟨nb, hnb1⟩ : ∃ x, nullsZ (l.drop q) = x := ⟨_, rfl⟩
      obtain ⟨nz, hnz1⟩ : ∃ x, nullsZ l = x := ⟨_, rfl⟩
      have hok2 : ∀ x ∈ l.take q ++ l.drop q, Kind3 T x := by rw [List.take_append_drop]; exact hok
      have e1 := ends_low hT4 hok2
      have e2 := ends_top hT4 hok2
      rw [List.take_append_drop, hla1, hta1, hlb1, htb1, hlz1] at e1
      rw [List.take_append_drop, hla1, hta1, hlb1, htb1, htz1] at e2
      have e3 : nz = na + nb := by rw [← hnz1, ← hna1, ← hnb1]; unfold nullsZ; rw [← List.countP_append, List.take_append_drop]
      have e4 : na ≤ 20 ∧ nb ≤ 20 := by
        have h1 : nullsZ (l.take q) ≤ _ := List.countP_le_length
        have h2 : nullsZ (l.drop q) ≤ _ := List.countP_le_length
        rw [List.length_take] at h1
        rw [List.length_drop] at h2
        rw [hna1] at h1
        rw [hnb1] at h2
        omega
      have HEND := Lib.hid (And.intro e1 (And.intro e2 (And.intro e3 e4)))
      have hn4 := e4
      rw [hna1, hla1, hta1] at HA1
      rw [hnb1, hlb1, htb1] at HA2
      rw [hnb1, hlb1, htb1] at HA2b
      rw [hnz1, hlz1, htz1] at HA3
      clear e1 e2 e3 e4 hok2 hla1 hta1 hlb1 htb1 hlz1 htz1 hna1 hnb1 hnz1
      have HLAT := Lib.hid (HL1.out.trans lat)
      have HOK := Lib.hid hok
      have hl20 := Lib.hid hlj
      rw [hlj] at hcap ⊢
      have hqi := HQQ.out
      clear hok ha hown lat hpk hlj hla HH HL1 HR1 H256 HBS hj hk
      skip
      by_cases hcl : q < cl
      · have hi1 : (0 : Int) ≤ (q : Int) := by omega
        have hi2 : (q : Int) ≤ 20 := by omega
        have hi3 : (q : Int) ≤ (cl : Int) := by omega
        have hi4 : (20 : Int) ≤ (cl : Int) := by omega
        have hc2 : (cl : Int) - (q : Int) = ((cl - q : Nat) : Int) := by omega
        have hc3 : (20 : Int) - (q : Int) = ((20 - q : Nat) : Int) := by omega
        have hcq : (cl = q) = False := by simp; omega
        go_wp2_with fail
        refine wp_region_K (S := fun W => Later wr W) (R := Later) Later.refl (by kernel_rfl) ?_
        have hS : Later wr wr.drew := (Later.refl wr).drew
        refine wpAnyK_take Later.refl (fun _ _ _ h k => h.trans k) (fun _ _ h k => h.trans k) (i := 0) (oi := { dst := some 40, op := _, type := _, pos := _, after := _, guard := _ }) (v := ?_) rfl (by kernel_rfl) (by kernel_rfl) (by kernel_rfl) (fun _ _ _ h => h) (Or.inl (Or.inl ⟨by rfl, ?_⟩)) hS ?_
        rotate_left
        focus ((intro w hSw; (try dsimp only at hSw); go_simp); (try with_reducible rfl))
        intro w0 hw0
        replace hS := hS.trans hw0
        (try simp only [Act.put, List.setIfInBounds_toArray, List.set_cons_zero, List.set_cons_succ])
        clear hw0
        refine wpAnyK_take Later.refl (fun _ _ _ h k => h.trans k) (fun _ _ h k => h.trans k) (i := 1) (oi := { dst := some 41, op := _, type := _, pos := _, after := _, guard := _ }) (v := ?_) rfl (by kernel_rfl) (by kernel_rfl) (by kernel_rfl) (fun _ _ _ h => h) (Or.inl (Or.inl ⟨by rfl, ?_⟩)) hS ?_
        rotate_left
        focus ((intro w hSw; (try dsimp only at hSw); go_simp); (try with_reducible rfl))
        intro w1 hw1
        replace hS := hS.trans hw1
        (try simp only [Act.put, List.setIfInBounds_toArray, List.set_cons_zero, List.set_cons_succ])
        clear hw1
        refine wpAnyK_take Later.refl (fun _ _ _ h k => h.trans k) (fun _ _ h k => h.trans k) (i := 2) (oi := { dst := some 42, op := _, type := _, pos := _, after := _, guard := _ }) (v := ?_) rfl (by kernel_rfl) (by kernel_rfl) (by kernel_rfl) (fun _ _ _ h => h) (Or.inl (Or.inl ⟨by rfl, ?_⟩)) hS ?_
        rotate_left
        focus ((intro w hSw; (try dsimp only at hSw); go_simp); (try with_reducible rfl))
        intro w2 hw2
        replace hS := hS.trans hw2
        (try simp only [Act.put, List.setIfInBounds_toArray, List.set_cons_zero, List.set_cons_succ])
        clear hw2
        refine wpAnyK_take Later.refl (fun _ _ _ h k => h.trans k) (fun _ _ h k => h.trans k) (i := 3) (oi := { dst := some 43, op := _, type := _, pos := _, after := _, guard := _ }) (v := zagg (na : Int) la ta) rfl (by kernel_rfl) (by kernel_rfl) (by kernel_rfl) (fun _ _ _ h => h) (Or.inr ⟨by rfl, 7, #[.slice (some ⟨gb, 0, none⟩) q cl], fun W hW => ⟨?_, HA1.out W hW⟩⟩) hS ?_
        · first | rfl | (go_simp; done)
        intro w3 hw3
        replace hS := hS.trans hw3
        (try simp only [Act.put, List.setIfInBounds_toArray, List.set_cons_zero, List.set_cons_succ])
        clear hw3
        refine wpAnyK_take Later.refl (fun _ _ _ h k => h.trans k) (fun _ _ h k => h.trans k) (i := 4) (oi := { dst := some 44, op := _, type := _, pos := _, after := _, guard := _ }) (v := ?_) rfl (by kernel_rfl) (by kernel_rfl) (by kernel_rfl) (fun _ _ _ h => h) (Or.inl (Or.inl ⟨by rfl, ?_⟩)) hS ?_
        rotate_left
        focus ((intro w hSw; (try dsimp only at hSw); go_simp); (try with_reducible rfl))
        intro w4 hw4
        replace hS := hS.trans hw4
        (try simp only [Act.put, List.setIfInBounds_toArray, List.set_cons_zero, List.set_cons_succ])
        clear hw4
        refine wpAnyK_take Later.refl (fun _ _ _ h k => h.trans k) (fun _ _ h k => h.trans k) (i := 5) (oi := { dst := some 45, op := _, type := _, pos := _, after := _, guard := _ }) (v := ?_) rfl (by kernel_rfl) (by kernel_rfl) (by kernel_rfl) (fun _ _ _ h => h) (Or.inl (Or.inl ⟨by rfl, ?_⟩)) hS ?_
        rotate_left
        focus ((intro w hSw; (try dsimp only at hSw); go_simp); (try with_reducible rfl))
        intro w5 hw5
        replace hS := hS.trans hw5
        (try simp only [Act.put, List.setIfInBounds_toArray, List.set_cons_zero, List.set_cons_succ])
        clear hw5
        refine wpAnyK_take Later.refl (fun _ _ _ h k => h.trans k) (fun _ _ h k => h.trans k) (i := 6) (oi := { dst := some 46, op := _, type := _, pos := _, after := _, guard := _ }) (v := ?_) rfl (by kernel_rfl) (by kernel_rfl) (by kernel_rfl) (fun _ _ _ h => h) (Or.inl (Or.inl ⟨by rfl, ?_⟩)) hS ?_
        rotate_left
        focus ((intro w hSw; (try dsimp only at hSw); go_simp); (try with_reducible rfl))
        intro w6 hw6
        replace hS := hS.trans hw6
        (try simp only [Act.put, List.setIfInBounds_toArray, List.set_cons_zero, List.set_cons_succ])
        clear hw6
        refine wpAnyK_take Later.refl (fun _ _ _ h k => h.trans k) (fun _ _ h k => h.trans k) (i := 7) (oi := { dst := some 47, op := _, type := _, pos := _, after := _, guard := _ }) (v := zagg (nb : Int) lb tb) rfl (by kernel_rfl) (by kernel_rfl) (by kernel_rfl) (fun _ _ _ h => h) (Or.inr ⟨by rfl, 7, #[.slice (some ⟨gb, q * 3, none⟩) (20 - q) (cl - q)], fun W hW => ⟨?_, HA2.out W hW⟩⟩) hS ?_
        · first | rfl | (go_simp; done)
        intro w7 hw7
        replace hS := hS.trans hw7
        (try simp only [Act.put, List.setIfInBounds_toArray, List.set_cons_zero, List.set_cons_succ])
        clear hw7
        refine wpAnyK_take Later.refl (fun _ _ _ h k => h.trans k) (fun _ _ h k => h.trans k) (i := 8) (oi := { dst := some 48, op := _, type := _, pos := _, after := _, guard := _ }) (v := ?_) rfl (by kernel_rfl) (by kernel_rfl) (by kernel_rfl) (fun _ _ _ h => h) (Or.inl (Or.inl ⟨by rfl, ?_⟩)) hS ?_
        rotate_left
        focus ((intro w hSw; (try dsimp only at hSw); go_simp); (try with_reducible rfl))
        intro w8 hw8
        replace hS := hS.trans hw8
        (try simp only [Act.put, List.setIfInBounds_toArray, List.set_cons_zero, List.set_cons_succ])
        clear hw8
        refine wpAnyK_take Later.refl (fun _ _ _ h k => h.trans k) (fun _ _ h k => h.trans k) (i := 9) (oi := { dst := some 49, op := _, type := _, pos := _, after := _, guard := _ }) (v := zagg (nz : Int) lz tz) rfl (by kernel_rfl) (by kernel_rfl) (by kernel_rfl) (fun _ _ _ h => h) (Or.inr ⟨by rfl, 7, #[.slice (some ⟨gb, 0, none⟩) 20 cl], fun W hW => ⟨?_, HA3.out W hW⟩⟩) hS ?_
        · first | rfl | (go_simp; done)
        intro w9 hw9
        replace hS := hS.trans hw9
        (try simp only [Act.put, List.setIfInBounds_toArray, List.set_cons_zero, List.set_cons_succ])
        clear hw9
        refine wpAnyK_all (rs := [10, 11, 12]) (by kernel_rfl) (by simp) (fun i hi => ?_)
        simp only [List.mem_cons, List.not_mem_nil, or_false] at hi
        rcases hi with rfl | rfl | rfl
        · refine stepK (o := { dst := some 12, op := _, type := _, pos := _, after := _, guard := _ }) rfl (fun K hK => ?_)
          go_simp
          obtain ⟨g10, hg10⟩ : ∃ x, x = w9.heap.size := ⟨_, rfl⟩
          have L10 := Later.new w9 (.cells (zc 0 0 0 ⟨#[]⟩ 0 0 ⟨#[]⟩) 31)
          have Z10 := Blk.new w9 (zc 0 0 0 ⟨#[]⟩ 0 0 ⟨#[]⟩) 31 g10 hg10
          have b10 : wr.heap.size ≤ g10 := by rw [hg10]; exact hS.size
          have P10 : g10 < (w9.alloc (.cells (zc 0 0 0 ⟨#[]⟩ 0 0 ⟨#[]⟩) 31)).heap.size := Z10.lt
          refine hK _ _ (hS.trans L10) (fun w10 h10 => ?_)
          rw [← hg10]
          clear hg10
          replace hS := hS.trans (L10.trans h10)
          replace Z10 := Z10.later h10
          replace P10 := Nat.lt_of_lt_of_le P10 h10.size
          clear hK L10 h10
          (try simp only [Act.put, List.setIfInBounds_toArray, List.set_cons_zero, List.set_cons_succ])
          refine wpAnyK_all (rs := [11, 12]) (by kernel_rfl) (by simp) (fun i hi => ?_)
          simp only [List.mem_cons, List.not_mem_nil, or_false] at hi
          rcases hi with rfl | rfl
          · refine stepK (o := { dst := some 13, op := _, type := _, pos := _, after := _, guard := _ }) rfl (fun K hK => ?_)
            go_simp
            obtain ⟨g11, hg11⟩ : ∃ x, x = w10.heap.size := ⟨_, rfl⟩
            have L11 := Later.new w10 (.cells (zc 0 0 0 ⟨#[]⟩ 0 0 ⟨#[]⟩) 31)
            have Z11 := Blk.new w10 (zc 0 0 0 ⟨#[]⟩ 0 0 ⟨#[]⟩) 31 g11 hg11
            have Z10 := Z10.later L11
            have N1011 : g10 ≠ g11 := by have := P10; omega
            have b11 : wr.heap.size ≤ g11 := by rw [hg11]; exact hS.size
            have P11 : g11 < (w10.alloc (.cells (zc 0 0 0 ⟨#[]⟩ 0 0 ⟨#[]⟩) 31)).heap.size := Z11.lt
            refine hK _ _ (hS.trans L11) (fun w11 h11 => ?_)
            rw [← hg11]
            clear hg11
            replace hS := hS.trans (L11.trans h11)
            replace Z10 := Z10.later h11
            replace Z11 := Z11.later h11
            replace P10 := Nat.lt_of_lt_of_le P10 (Later.size (L11.trans h11))
            replace P11 := Nat.lt_of_lt_of_le P11 h11.size
            clear hK L11 h11
            (try simp only [Act.put, List.setIfInBounds_toArray, List.set_cons_zero, List.set_cons_succ])
            refine wpAnyK_all (rs := [12]) (by kernel_rfl) (by simp) (fun i hi => ?_)
            simp only [List.mem_cons, List.not_mem_nil, or_false] at hi
            rcases hi with rfl
            · refine stepK (o := { dst := some 14, op := _, type := _, pos := _, after := _, guard := _ }) rfl (fun K hK => ?_)
              go_simp
              obtain ⟨g12, hg12⟩ : ∃ x, x = w11.heap.size := ⟨_, rfl⟩
              have L12 := Later.new w11 (.cells (zc 0 0 0 ⟨#[]⟩ 0 0 ⟨#[]⟩) 31)
              have Z12 := Blk.new w11 (zc 0 0 0 ⟨#[]⟩ 0 0 ⟨#[]⟩) 31 g12 hg12
              have Z10 := Z10.later L12
              have Z11 := Z11.later L12
              have N1012 : g10 ≠ g12 := by have := P10; omega
              have N1112 : g11 ≠ g12 := by have := P11; omega
              have b12 : wr.heap.size ≤ g12 := by rw [hg12]; exact hS.size
              have P12 : g12 < (w11.alloc (.cells (zc 0 0 0 ⟨#[]⟩ 0 0 ⟨#[]⟩) 31)).heap.size := Z12.lt
              refine hK _ _ (hS.trans L12) (fun w12 h12 => ?_)
              rw [← hg12]
              clear hg12
              replace hS := hS.trans (L12.trans h12)
              replace Z10 := Z10.later h12
              replace Z11 := Z11.later h12
              replace Z12 := Z12.later h12
              replace P10 := Nat.lt_of_lt_of_le P10 (Later.size (L12.trans h12))
              replace P11 := Nat.lt_of_lt_of_le P11 (Later.size (L12.trans h12))
              replace P12 := Nat.lt_of_lt_of_le P12 h12.size
              clear hK L12 h12
              (try simp only [Act.put, List.setIfInBounds_toArray, List.set_cons_zero, List.set_cons_succ])
              clear P10 P11 P12
              have c100 := Z10.cell 0 _ rfl
              have c101 := Z10.cell 1 _ rfl
              have c102 := Z10.cell 2 _ rfl
              have c103 := Z10.cell 3 _ rfl
              have c104 := Z10.cell 4 _ rfl
              have c105 := Z10.cell 5 _ rfl
              have c106 := Z10.cell 6 _ rfl
              have f100 := Z10.frozen 0
              have f101 := Z10.frozen 1
              have f102 := Z10.frozen 2
              have f103 := Z10.frozen 3
              have f104 := Z10.frozen 4
              have f105 := Z10.frozen 5
              have f106 := Z10.frozen 6
              refine wpAnyK_all (rs := [13]) (by kernel_rfl) (by simp) (fun i hi => ?_)
              simp only [List.mem_cons, List.not_mem_nil, or_false] at hi
              subst hi
              refine stepK (o := { dst := none, op := _, type := _, pos := _, after := _, guard := _ }) rfl (fun K hK => ?_)
              go_simp
              clear c100 f100 c101 f101 c102 f102 c103 f103 c104 f104 c105 f105 c106 f106
              refine hK _ _ (zset_later g10 (na : Int) la ta hS b10) (fun w13 h13 => ?_)
              replace hS := (zset_later g10 (na : Int) la ta hS b10).trans h13
              replace Z10 := (zput (na : Int) la ta Z10).later h13
              replace Z11 := (zset_far g10 (na : Int) la ta Z11 (by first | exact N1110 | exact N1011 | exact Ne.symm N1110 | exact Ne.symm N1011)).later h13
              replace Z12 := (zset_far g10 (na : Int) la ta Z12 (by first | exact N1210 | exact N1012 | exact Ne.symm N1210 | exact Ne.symm N1012)).later h13
              clear hK h13
              (try simp only [Act.put, List.setIfInBounds_toArray, List.set_cons_zero, List.set_cons_succ])
              have c110 := Z11.cell 0 _ rfl
              have c111 := Z11.cell 1 _ rfl
              have c112 := Z11.cell 2 _ rfl
              have c113 := Z11.cell 3 _ rfl
              have c114 := Z11.cell 4 _ rfl
              have c115 := Z11.cell 5 _ rfl
              have c116 := Z11.cell 6 _ rfl
              have f110 := Z11.frozen 0
              have f111 := Z11.frozen 1
              have f112 := Z11.frozen 2
              have f113 := Z11.frozen 3
              have f114 := Z11.frozen 4
              have f115 := Z11.frozen 5
              have f116 := Z11.frozen 6
              refine wpAnyK_all (rs := [14]) (by kernel_rfl) (by simp) (fun i hi => ?_)
              simp only [List.mem_cons, List.not_mem_nil, or_false] at hi
              subst hi
              refine stepK (o := { dst := none, op := _, type := _, pos := _, after := _, guard := _ }) rfl (fun K hK => ?_)
              go_simp
              clear c110 f110 c111 f111 c112 f112 c113 f113 c114 f114 c115 f115 c116 f116
              refine hK _ _ (zset_later g11 (nb : Int) lb tb hS b11) (fun w14 h14 => ?_)
              replace hS := (zset_later g11 (nb : Int) lb tb hS b11).trans h14
              replace Z11 := (zput (nb : Int) lb tb Z11).later h14
              replace Z10 := (zset_far g11 (nb : Int) lb tb Z10 (by first | exact N1011 | exact N1110 | exact Ne.symm N1011 | exact Ne.symm N1110)).later h14
              replace Z12 := (zset_far g11 (nb : Int) lb tb Z12 (by first | exact N1211 | exact N1112 | exact Ne.symm N1211 | exact Ne.symm N1112)).later h14
              clear hK h14
              (try simp only [Act.put, List.setIfInBounds_toArray, List.set_cons_zero, List.set_cons_succ])
              have c120 := Z12.cell 0 _ rfl
              have c121 := Z12.cell 1 _ rfl
              have c122 := Z12.cell 2 _ rfl
              have c123 := Z12.cell 3 _ rfl
              have c124 := Z12.cell 4 _ rfl
              have c125 := Z12.cell 5 _ rfl
              have c126 := Z12.cell 6 _ rfl
              have f120 := Z12.frozen 0
              have f121 := Z12.frozen 1
              have f122 := Z12.frozen 2
              have f123 := Z12.frozen 3
              have f124 := Z12.frozen 4
              have f125 := Z12.frozen 5
              have f126 := Z12.frozen 6
              refine wpAnyK_all (rs := [15]) (by kernel_rfl) (by simp) (fun i hi => ?_)
              simp only [List.mem_cons, List.not_mem_nil, or_false] at hi
              subst hi
              refine stepK (o := { dst := none, op := _, type := _, pos := _, after := _, guard := _ }) rfl (fun K hK => ?_)
              go_simp
              clear c120 f120 c121 f121 c122 f122 c123 f123 c124 f124 c125 f125 c126 f126
              refine hK _ _ (zset_later g12 (nz : Int) lz tz hS b12) (fun w15 h15 => ?_)
              replace hS := (zset_later g12 (nz : Int) lz tz hS b12).trans h15
              replace Z12 := (zput (nz : Int) lz tz Z12).later h15
              replace Z10 := (zset_far g12 (nz : Int) lz tz Z10 (by first | exact N1012 | exact N1210 | exact Ne.symm N1012 | exact Ne.symm N1210)).later h15
              replace Z11 := (zset_far g12 (nz : Int) lz tz Z11 (by first | exact N1112 | exact N1211 | exact Ne.symm N1112 | exact Ne.symm N1211)).later h15
              clear hK h15
              (try simp only [Act.put, List.setIfInBounds_toArray, List.set_cons_zero, List.set_cons_succ])
              refine wpAnyK_done (by kernel_rfl) ?_ _
              skip
              have c100 := Z10.cell 0 _ rfl
              have c101 := Z10.cell 1 _ rfl
              have c102 := Z10.cell 2 _ rfl
              have c103 := Z10.cell 3 _ rfl
              have c104 := Z10.cell 4 _ rfl
              have c105 := Z10.cell 5 _ rfl
              have c106 := Z10.cell 6 _ rfl
              have c110 := Z11.cell 0 _ rfl
              have c111 := Z11.cell 1 _ rfl
              have c112 := Z11.cell 2 _ rfl
              have c113 := Z11.cell 3 _ rfl
              have c114 := Z11.cell 4 _ rfl
              have c115 := Z11.cell 5 _ rfl
              have c116 := Z11.cell 6 _ rfl
              have HZ10 := Lib.hid Z10
              have HZ11 := Lib.hid Z11
              have HZ12 := Lib.hid Z12
              have HS := Lib.hid hS
              have HE := Lib.hid (fun (W : World) => (show Calls Tryd.prog 7 #[.slice (some ⟨W.heap.size, 0, none⟩) 4 4] (W.alloc (.cells (fl [la, ta, lb, tb]).toArray 28)) fun e w' => ∃ ne : Int, e = .returned (zagg ne lz tz) ∧ Later (W.alloc (.cells (fl [la, ta, lb, tb]).toArray 28)) w' from by
                have h := zoneOf_any (some ⟨W.heap.size, 0, none⟩) 4 4 [la, ta, lb, tb] (W.alloc (.cells (fl [la, ta, lb, tb]).toArray 28)) rfl (by simp) ((Blk.new W (fl [la, ta, lb, tb]).toArray 28 W.heap.size rfl).has)
                rw [← HEND.out.1, ← HEND.out.2.1] at h
                exact h.mono fun e w' h => ⟨_, h⟩))
              clear Z10 Z11 Z12 hS
              go_wp2_with fail
              refine (HE.out _).mono ?_
              rintro e wE ⟨ne, rfl, lE⟩
              have LE := Lib.hid ((Later.new _ _).trans lE)
              have LF := LE.out.trans (Later.new wE (.cells (zc ne lz.1 lz.2.1 lz.2.2 tz.1 tz.2.1 tz.2.2) 31))
              have Z15 := Blk.new wE (zc ne lz.1 lz.2.1 lz.2.2 tz.1 tz.2.1 tz.2.2) 31 wE.heap.size rfl
              have d151 := Z15.cell 1 _ rfl
              have d152 := Z15.cell 2 _ rfl
              have d153 := Z15.cell 3 _ rfl
              have d154 := Z15.cell 4 _ rfl
              have d155 := Z15.cell 5 _ rfl
              have d156 := Z15.cell 6 _ rfl
              have d120 := (HZ12.out.later LF).cell 0 _ rfl
              have d121 := (HZ12.out.later LF).cell 1 _ rfl
              have d122 := (HZ12.out.later LF).cell 2 _ rfl
              have d123 := (HZ12.out.later LF).cell 3 _ rfl
              have d124 := (HZ12.out.later LF).cell 4 _ rfl
              have d125 := (HZ12.out.later LF).cell 5 _ rfl
              have d126 := (HZ12.out.later LF).cell 6 _ rfl
              have d100 := (HZ10.out.later LF).cell 0 _ rfl
              have d110 := (HZ11.out.later LF).cell 0 _ rfl
              have zz := (Blk.new wE (zc 0 0 0 ⟨#[]⟩ 0 0 ⟨#[]⟩) 31 wE.heap.size rfl)
              have y150 := zz.frozen 0
              have y151 := zz.frozen 1
              have y152 := zz.frozen 2
              have y153 := zz.frozen 3
              have y154 := zz.frozen 4
              have y155 := zz.frozen 5
              have y156 := zz.frozen 6
              have hnn : (nz : Int) = (na : Int) + (nb : Int) := by have := HEND.out.2.2.1; omega
              clear lE zz Z15 c100 c110 c101 c111 c102 c112 c103 c113 c104 c114 c105 c115 c106 c116
              go_wp2_with fail
              go_ret
              exact ⟨rfl, HLAT.out.trans (HS.out.trans LF)⟩
          · refine stepK (o := { dst := some 14, op := _, type := _, pos := _, after := _, guard := _ }) rfl (fun K hK => ?_)
            go_simp
            obtain ⟨g12, hg12⟩ : ∃ x, x = w10.heap.size := ⟨_, rfl⟩
            have L12 := Later.new w10 (.cells (zc 0 0 0 ⟨#[]⟩ 0 0 ⟨#[]⟩) 31)
            have Z12 := Blk.new w10 (zc 0 0 0 ⟨#[]⟩ 0 0 ⟨#[]⟩) 31 g12 hg12
            have Z10 := Z10.later L12
            have N1012 : g10 ≠ g12 := by have := P10; omega
            have b12 : wr.heap.size ≤ g12 := by rw [hg12]; exact hS.size
            have P12 : g12 < (w10.alloc (.cells (zc 0 0 0 ⟨#[]⟩ 0 0 ⟨#[]⟩) 31)).heap.size := Z12.lt
            refine hK _ _ (hS.trans L12) (fun w12 h12 => ?_)
            rw [← hg12]
            clear hg12
            replace hS := hS.trans (L12.trans h12)
            replace Z10 := Z10.later h12
            replace Z12 := Z12.later h12
            replace P10 := Nat.lt_of_lt_of_le P10 (Later.size (L12.trans h12))
            replace P12 := Nat.lt_of_lt_of_le P12 h12.size
            clear hK L12 h12
            (try simp only [Act.put, List.setIfInBounds_toArray, List.set_cons_zero, List.set_cons_succ])
            refine wpAnyK_all (rs := [11]) (by kernel_rfl) (by simp) (fun i hi => ?_)
            simp only [List.mem_cons, List.not_mem_nil, or_false] at hi
            rcases hi with rfl
            · refine stepK (o := { dst := some 13, op := _, type := _, pos := _, after := _, guard := _ }) rfl (fun K hK => ?_)
              go_simp
              obtain ⟨g11, hg11⟩ : ∃ x, x = w12.heap.size := ⟨_, rfl⟩
              have L11 := Later.new w12 (.cells (zc 0 0 0 ⟨#[]⟩ 0 0 ⟨#[]⟩) 31)
              have Z11 := Blk.new w12 (zc 0 0 0 ⟨#[]⟩ 0 0 ⟨#[]⟩) 31 g11 hg11
              have Z10 := Z10.later L11
              have Z12 := Z12.later L11
              have N1011 : g10 ≠ g11 := by have := P10; omega
              have N1211 : g12 ≠ g11 := by have := P12; omega
              have b11 : wr.heap.size ≤ g11 := by rw [hg11]; exact hS.size
              have P11 : g11 < (w12.alloc (.cells (zc 0 0 0 ⟨#[]⟩ 0 0 ⟨#[]⟩) 31)).heap.size := Z11.lt
              refine hK _ _ (hS.trans L11) (fun w11 h11 => ?_)
              rw [← hg11]
              clear hg11
              replace hS := hS.trans (L11.trans h11)
              replace Z10 := Z10.later h11
              replace Z12 := Z12.later h11
              replace Z11 := Z11.later h11
              replace P10 := Nat.lt_of_lt_of_le P10 (Later.size (L11.trans h11))
              replace P12 := Nat.lt_of_lt_of_le P12 (Later.size (L11.trans h11))
              replace P11 := Nat.lt_of_lt_of_le P11 h11.size
              clear hK L11 h11
              (try simp only [Act.put, List.setIfInBounds_toArray, List.set_cons_zero, List.set_cons_succ])
              clear P10 P11 P12
              have c100 := Z10.cell 0 _ rfl
              have c101 := Z10.cell 1 _ rfl
              have c102 := Z10.cell 2 _ rfl
              have c103 := Z10.cell 3 _ rfl
              have c104 := Z10.cell 4 _ rfl
              have c105 := Z10.cell 5 _ rfl
              have c106 := Z10.cell 6 _ rfl
              have f100 := Z10.frozen 0
              have f101 := Z10.frozen 1
              have f102 := Z10.frozen 2
              have f103 := Z10.frozen 3
              have f104 := Z10.frozen 4
              have f105 := Z10.frozen 5
              have f106 := Z10.frozen 6
              refine wpAnyK_all (rs := [13]) (by kernel_rfl) (by simp) (fun i hi => ?_)
              simp only [List.mem_cons, List.not_mem_nil, or_false] at hi
              subst hi
              refine stepK (o := { dst := none, op := _, type := _, pos := _, after := _, guard := _ }) rfl (fun K hK => ?_)
              go_simp
              clear c100 f100 c101 f101 c102 f102 c103 f103 c104 f104 c105 f105 c106 f106
              refine hK _ _ (zset_later g10 (na : Int) la ta hS b10) (fun w13 h13 => ?_)
              replace hS := (zset_later g10 (na : Int) la ta hS b10).trans h13
              replace Z10 := (zput (na : Int) la ta Z10).later h13
              replace Z11 := (zset_far g10 (na : Int) la ta Z11 (by first | exact N1110 | exact N1011 | exact Ne.symm N1110 | exact Ne.symm N1011)).later h13
              replace Z12 := (zset_far g10 (na : Int) la ta Z12 (by first | exact N1210 | exact N1012 | exact Ne.symm N1210 | exact Ne.symm N1012)).later h13
              clear hK h13
              (try simp only [Act.put, List.setIfInBounds_toArray, List.set_cons_zero, List.set_cons_succ])
              have c110 := Z11.cell 0 _ rfl
              have c111 := Z11.cell 1 _ rfl
              have c112 := Z11.cell 2 _ rfl
              have c113 := Z11.cell 3 _ rfl
              have c114 := Z11.cell 4 _ rfl
              have c115 := Z11.cell 5 _ rfl
              have c116 := Z11.cell 6 _ rfl
              have f110 := Z11.frozen 0
              have f111 := Z11.frozen 1
              have f112 := Z11.frozen 2
              have f113 := Z11.frozen 3
              have f114 := Z11.frozen 4
              have f115 := Z11.frozen 5
              have f116 := Z11.frozen 6
              refine wpAnyK_all (rs := [14]) (by kernel_rfl) (by simp) (fun i hi => ?_)
              simp only [List.mem_cons, List.not_mem_nil, or_false] at hi
              subst hi
              refine stepK (o := { dst := none, op := _, type := _, pos := _, after := _, guard := _ }) rfl (fun K hK => ?_)
              go_simp
              clear c110 f110 c111 f111 c112 f112 c113 f113 c114 f114 c115 f115 c116 f116
              refine hK _ _ (zset_later g11 (nb : Int) lb tb hS b11) (fun w14 h14 => ?_)
              replace hS := (zset_later g11 (nb : Int) lb tb hS b11).trans h14
              replace Z11 := (zput (nb : Int) lb tb Z11).later h14
              replace Z10 := (zset_far g11 (nb : Int) lb tb Z10 (by first | exact N1011 | exact N1110 | exact Ne.symm N1011 | exact Ne.symm N1110)).later h14
              replace Z12 := (zset_far g11 (nb : Int) lb tb Z12 (by first | exact N1211 | exact N1112 | exact Ne.symm N1211 | exact Ne.symm N1112)).later h14
              clear hK h14
              (try simp only [Act.put, List.setIfInBounds_toArray, List.set_cons_zero, List.set_cons_succ])
              have c120 := Z12.cell 0 _ rfl
              have c121 := Z12.cell 1 _ rfl
              have c122 := Z12.cell 2 _ rfl
              have c123 := Z12.cell 3 _ rfl
              have c124 := Z12.cell 4 _ rfl
              have c125 := Z12.cell 5 _ rfl
              have c126 := Z12.cell 6 _ rfl
              have f120 := Z12.frozen 0
              have f121 := Z12.frozen 1
              have f122 := Z12.frozen 2
              have f123 := Z12.frozen 3
              have f124 := Z12.frozen 4
              have f125 := Z12.frozen 5
              have f126 := Z12.frozen 6
              refine wpAnyK_all (rs := [15]) (by kernel_rfl) (by simp) (fun i hi => ?_)
              simp only [List.mem_cons, List.not_mem_nil, or_false] at hi
              subst hi
              refine stepK (o := { dst := none, op := _, type := _, pos := _, after := _, guard := _ }) rfl (fun K hK => ?_)
              go_simp
              clear c120 f120 c121 f121 c122 f122 c123 f123 c124 f124 c125 f125 c126 f126
              refine hK _ _ (zset_later g12 (nz : Int) lz tz hS b12) (fun w15 h15 => ?_)
              replace hS := (zset_later g12 (nz : Int) lz tz hS b12).trans h15
              replace Z12 := (zput (nz : Int) lz tz Z12).later h15
              replace Z10 := (zset_far g12 (nz : Int) lz tz Z10 (by first | exact N1012 | exact N1210 | exact Ne.symm N1012 | exact Ne.symm N1210)).later h15
              replace Z11 := (zset_far g12 (nz : Int) lz tz Z11 (by first | exact N1112 | exact N1211 | exact Ne.symm N1112 | exact Ne.symm N1211)).later h15
              clear hK h15
              (try simp only [Act.put, List.setIfInBounds_toArray, List.set_cons_zero, List.set_cons_succ])
              refine wpAnyK_done (by kernel_rfl) ?_ _
              skip
              have c100 := Z10.cell 0 _ rfl
              have c101 := Z10.cell 1 _ rfl
              have c102 := Z10.cell 2 _ rfl
              have c103 := Z10.cell 3 _ rfl
              have c104 := Z10.cell 4 _ rfl
              have c105 := Z10.cell 5 _ rfl
              have c106 := Z10.cell 6 _ rfl
              have c110 := Z11.cell 0 _ rfl
              have c111 := Z11.cell 1 _ rfl
              have c112 := Z11.cell 2 _ rfl
              have c113 := Z11.cell 3 _ rfl
              have c114 := Z11.cell 4 _ rfl
              have c115 := Z11.cell 5 _ rfl
              have c116 := Z11.cell 6 _ rfl
              have HZ10 := Lib.hid Z10
              have HZ11 := Lib.hid Z11
              have HZ12 := Lib.hid Z12
              have HS := Lib.hid hS
              have HE := Lib.hid (fun (W : World) => (show Calls Tryd.prog 7 #[.slice (some ⟨W.heap.size, 0, none⟩) 4 4] (W.alloc (.cells (fl [la, ta, lb, tb]).toArray 28)) fun e w' => ∃ ne : Int, e = .returned (zagg ne lz tz) ∧ Later (W.alloc (.cells (fl [la, ta, lb, tb]).toArray 28)) w' from by
                have h := zoneOf_any (some ⟨W.heap.size, 0, none⟩) 4 4 [la, ta, lb, tb] (W.alloc (.cells (fl [la, ta, lb, tb]).toArray 28)) rfl (by simp) ((Blk.new W (fl [la, ta, lb, tb]).toArray 28 W.heap.size rfl).has)
                rw [← HEND.out.1, ← HEND.out.2.1] at h
                exact h.mono fun e w' h => ⟨_, h⟩))
              clear Z10 Z11 Z12 hS
              go_wp2_with fail
              refine (HE.out _).mono ?_
              rintro e wE ⟨ne, rfl, lE⟩
              have LE := Lib.hid ((Later.new _ _).trans lE)
              have LF := LE.out.trans (Later.new wE (.cells (zc ne lz.1 lz.2.1 lz.2.2 tz.1 tz.2.1 tz.2.2) 31))
              have Z15 := Blk.new wE (zc ne lz.1 lz.2.1 lz.2.2 tz.1 tz.2.1 tz.2.2) 31 wE.heap.size rfl
              have d151 := Z15.cell 1 _ rfl
              have d152 := Z15.cell 2 _ rfl
              have d153 := Z15.cell 3 _ rfl
              have d154 := Z15.cell 4 _ rfl
              have d155 := Z15.cell 5 _ rfl
              have d156 := Z15.cell 6 _ rfl
              have d120 := (HZ12.out.later LF).cell 0 _ rfl
              have d121 := (HZ12.out.later LF).cell 1 _ rfl
              have d122 := (HZ12.out.later LF).cell 2 _ rfl
              have d123 := (HZ12.out.later LF).cell 3 _ rfl
              have d124 := (HZ12.out.later LF).cell 4 _ rfl
              have d125 := (HZ12.out.later LF).cell 5 _ rfl
              have d126 := (HZ12.out.later LF).cell 6 _ rfl
              have d100 := (HZ10.out.later LF).cell 0 _ rfl
              have d110 := (HZ11.out.later LF).cell 0 _ rfl
              have zz := (Blk.new wE (zc 0 0 0 ⟨#[]⟩ 0 0 ⟨#[]⟩) 31 wE.heap.size rfl)
              have y150 := zz.frozen 0
              have y151 := zz.frozen 1
              have y152 := zz.frozen 2
              have y153 := zz.frozen 3
              have y154 := zz.frozen 4
              have y155 := zz.frozen 5
              have y156 := zz.frozen 6
              have hnn : (nz : Int) = (na : Int) + (nb : Int) := by have := HEND.out.2.2.1; omega
              clear lE zz Z15 c100 c110 c101 c111 c102 c112 c103 c113 c104 c114 c105 c115 c106 c116
              go_wp2_with fail
              go_ret
              exact ⟨rfl, HLAT.out.trans (HS.out.trans LF)⟩
        · refine stepK (o := { dst := some 13, op := _, type := _, pos := _, after := _, guard := _ }) rfl (fun K hK => ?_)
          go_simp
          obtain ⟨g11, hg11⟩ : ∃ x, x = w9.heap.size := ⟨_, rfl⟩
          have L11 := Later.new w9 (.cells (zc 0 0 0 ⟨#[]⟩ 0 0 ⟨#[]⟩) 31)
          have Z11 := Blk.new w9 (zc 0 0 0 ⟨#[]⟩ 0 0 ⟨#[]⟩) 31 g11 hg11
          have b11 : wr.heap.size ≤ g11 := by rw [hg11]; exact hS.size
          have P11 : g11 < (w9.alloc (.cells (zc 0 0 0 ⟨#[]⟩ 0 0 ⟨#[]⟩) 31)).heap.size := Z11.lt
          refine hK _ _ (hS.trans L11) (fun w11 h11 => ?_)
          rw [← hg11]
          clear hg11
          replace hS := hS.trans (L11.trans h11)
          replace Z11 := Z11.later h11
          replace P11 := Nat.lt_of_lt_of_le P11 h11.size
          clear hK L11 h11
          (try simp only [Act.put, List.setIfInBounds_toArray, List.set_cons_zero, List.set_cons_succ])
          refine wpAnyK_all (rs := [10, 12]) (by kernel_rfl) (by simp) (fun i hi => ?_)
          simp only [List.mem_cons, List.not_mem_nil, or_false] at hi
          rcases hi with rfl | rfl
          · refine stepK (o := { dst := some 12, op := _, type := _, pos := _, after := _, guard := _ }) rfl (fun K hK => ?_)
            go_simp
            obtain ⟨g10, hg10⟩ : ∃ x, x = w11.heap.size := ⟨_, rfl⟩
            have L10 := Later.new w11 (.cells (zc 0 0 0 ⟨#[]⟩ 0 0 ⟨#[]⟩) 31)
            have Z10 := Blk.new w11 (zc 0 0 0 ⟨#[]⟩ 0 0 ⟨#[]⟩) 31 g10 hg10
            have Z11 := Z11.later L10
            have N1110 : g11 ≠ g10 := by have := P11; omega
            have b10 : wr.heap.size ≤ g10 := by rw [hg10]; exact hS.size
            have P10 : g10 < (w11.alloc (.cells (zc 0 0 0 ⟨#[]⟩ 0 0 ⟨#[]⟩) 31)).heap.size := Z10.lt
            refine hK _ _ (hS.trans L10) (fun w10 h10 => ?_)
            rw [← hg10]
            clear hg10
            replace hS := hS.trans (L10.trans h10)
            replace Z11 := Z11.later h10
            replace Z10 := Z10.later h10
            replace P11 := Nat.lt_of_lt_of_le P11 (Later.size (L10.trans h10))
            replace P10 := Nat.lt_of_lt_of_le P10 h10.size
            clear hK L10 h10
            (try simp only [Act.put, List.setIfInBounds_toArray, List.set_cons_zero, List.set_cons_succ])
            refine wpAnyK_all (rs := [12]) (by kernel_rfl) (by simp) (fun i hi => ?_)
            simp only [List.mem_cons, List.not_mem_nil, or_false] at hi
            rcases hi with rfl
            · refine stepK (o := { dst := some 14, op := _, type := _, pos := _, after := _, guard := _ }) rfl (fun K hK => ?_)
              go_simp
              obtain ⟨g12, hg12⟩ : ∃ x, x = w10.heap.size := ⟨_, rfl⟩
              have L12 := Later.new w10 (.cells (zc 0 0 0 ⟨#[]⟩ 0 0 ⟨#[]⟩) 31)
              have Z12 := Blk.new w10 (zc 0 0 0 ⟨#[]⟩ 0 0 ⟨#[]⟩) 31 g12 hg12
              have Z11 := Z11.later L12
              have Z10 := Z10.later L12
              have N1112 : g11 ≠ g12 := by have := P11; omega
              have N1012 : g10 ≠ g12 := by have := P10; omega
              have b12 : wr.heap.size ≤ g12 := by rw [hg12]; exact hS.size
              have P12 : g12 < (w10.alloc (.cells (zc 0 0 0 ⟨#[]⟩ 0 0 ⟨#[]⟩) 31)).heap.size := Z12.lt
              refine hK _ _ (hS.trans L12) (fun w12 h12 => ?_)
              rw [← hg12]
              clear hg12
              replace hS := hS.trans (L12.trans h12)
              replace Z11 := Z11.later h12
              replace Z10 := Z10.later h12
              replace Z12 := Z12.later h12
              replace P11 := Nat.lt_of_lt_of_le P11 (Later.size (L12.trans h12))
              replace P10 := Nat.lt_of_lt_of_le P10 (Later.size (L12.trans h12))
              replace P12 := Nat.lt_of_lt_of_le P12 h12.size
              clear hK L12 h12
              (try simp only [Act.put, List.setIfInBounds_toArray, List.set_cons_zero, List.set_cons_succ])
              clear P10 P11 P12
              have c100 := Z10.cell 0 _ rfl
              have c101 := Z10.cell 1 _ rfl
              have c102 := Z10.cell 2 _ rfl
              have c103 := Z10.cell 3 _ rfl
              have c104 := Z10.cell 4 _ rfl
              have c105 := Z10.cell 5 _ rfl
              have c106 := Z10.cell 6 _ rfl
              have f100 := Z10.frozen 0
              have f101 := Z10.frozen 1
              have f102 := Z10.frozen 2
              have f103 := Z10.frozen 3
              have f104 := Z10.frozen 4
              have f105 := Z10.frozen 5
              have f106 := Z10.frozen 6
              refine wpAnyK_all (rs := [13]) (by kernel_rfl) (by simp) (fun i hi => ?_)
              simp only [List.mem_cons, List.not_mem_nil, or_false] at hi
              subst hi
              refine stepK (o := { dst := none, op := _, type := _, pos := _, after := _, guard := _ }) rfl (fun K hK => ?_)
              go_simp
              clear c100 f100 c101 f101 c102 f102 c103 f103 c104 f104 c105 f105 c106 f106
              refine hK _ _ (zset_later g10 (na : Int) la ta hS b10) (fun w13 h13 => ?_)
              replace hS := (zset_later g10 (na : Int) la ta hS b10).trans h13
              replace Z10 := (zput (na : Int) la ta Z10).later h13
              replace Z11 := (zset_far g10 (na : Int) la ta Z11 (by first | exact N1110 | exact N1011 | exact Ne.symm N1110 | exact Ne.symm N1011)).later h13
              replace Z12 := (zset_far g10 (na : Int) la ta Z12 (by first | exact N1210 | exact N1012 | exact Ne.symm N1210 | exact Ne.symm N1012)).later h13
              clear hK h13
              (try simp only [Act.put, List.setIfInBounds_toArray, List.set_cons_zero, List.set_cons_succ])
              have c110 := Z11.cell 0 _ rfl
              have c111 := Z11.cell 1 _ rfl
              have c112 := Z11.cell 2 _ rfl
              have c113 := Z11.cell 3 _ rfl
              have c114 := Z11.cell 4 _ rfl
              have c115 := Z11.cell 5 _ rfl
              have c116 := Z11.cell 6 _ rfl
              have f110 := Z11.frozen 0
              have f111 := Z11.frozen 1
              have f112 := Z11.frozen 2
              have f113 := Z11.frozen 3
              have f114 := Z11.frozen 4
              have f115 := Z11.frozen 5
              have f116 := Z11.frozen 6
              refine wpAnyK_all (rs := [14]) (by kernel_rfl) (by simp) (fun i hi => ?_)
              simp only [List.mem_cons, List.not_mem_nil, or_false] at hi
              subst hi
              refine stepK (o := { dst := none, op := _, type := _, pos := _, after := _, guard := _ }) rfl (fun K hK => ?_)
              go_simp
              clear c110 f110 c111 f111 c112 f112 c113 f113 c114 f114 c115 f115 c116 f116
              refine hK _ _ (zset_later g11 (nb : Int) lb tb hS b11) (fun w14 h14 => ?_)
              replace hS := (zset_later g11 (nb : Int) lb tb hS b11).trans h14
              replace Z11 := (zput (nb : Int) lb tb Z11).later h14
              replace Z10 := (zset_far g11 (nb : Int) lb tb Z10 (by first | exact N1011 | exact N1110 | exact Ne.symm N1011 | exact Ne.symm N1110)).later h14
              replace Z12 := (zset_far g11 (nb : Int) lb tb Z12 (by first | exact N1211 | exact N1112 | exact Ne.symm N1211 | exact Ne.symm N1112)).later h14
              clear hK h14
              (try simp only [Act.put, List.setIfInBounds_toArray, List.set_cons_zero, List.set_cons_succ])
              have c120 := Z12.cell 0 _ rfl
              have c121 := Z12.cell 1 _ rfl
              have c122 := Z12.cell 2 _ rfl
              have c123 := Z12.cell 3 _ rfl
              have c124 := Z12.cell 4 _ rfl
              have c125 := Z12.cell 5 _ rfl
              have c126 := Z12.cell 6 _ rfl
              have f120 := Z12.frozen 0
              have f121 := Z12.frozen 1
              have f122 := Z12.frozen 2
              have f123 := Z12.frozen 3
              have f124 := Z12.frozen 4
              have f125 := Z12.frozen 5
              have f126 := Z12.frozen 6
              refine wpAnyK_all (rs := [15]) (by kernel_rfl) (by simp) (fun i hi => ?_)
              simp only [List.mem_cons, List.not_mem_nil, or_false] at hi
              subst hi
              refine stepK (o := { dst := none, op := _, type := _, pos := _, after := _, guard := _ }) rfl (fun K hK => ?_)
              go_simp
              clear c120 f120 c121 f121 c122 f122 c123 f123 c124 f124 c125 f125 c126 f126
              refine hK _ _ (zset_later g12 (nz : Int) lz tz hS b12) (fun w15 h15 => ?_)
              replace hS := (zset_later g12 (nz : Int) lz tz hS b12).trans h15
              replace Z12 := (zput (nz : Int) lz tz Z12).later h15
              replace Z10 := (zset_far g12 (nz : Int) lz tz Z10 (by first | exact N1012 | exact N1210 | exact Ne.symm N1012 | exact Ne.symm N1210)).later h15
              replace Z11 := (zset_far g12 (nz : Int) lz tz Z11 (by first | exact N1112 | exact N1211 | exact Ne.symm N1112 | exact Ne.symm N1211)).later h15
              clear hK h15
              (try simp only [Act.put, List.setIfInBounds_toArray, List.set_cons_zero, List.set_cons_succ])
              refine wpAnyK_done (by kernel_rfl) ?_ _
              skip
              have c100 := Z10.cell 0 _ rfl
              have c101 := Z10.cell 1 _ rfl
              have c102 := Z10.cell 2 _ rfl
              have c103 := Z10.cell 3 _ rfl
              have c104 := Z10.cell 4 _ rfl
              have c105 := Z10.cell 5 _ rfl
              have c106 := Z10.cell 6 _ rfl
              have c110 := Z11.cell 0 _ rfl
              have c111 := Z11.cell 1 _ rfl
              have c112 := Z11.cell 2 _ rfl
              have c113 := Z11.cell 3 _ rfl
              have c114 := Z11.cell 4 _ rfl
              have c115 := Z11.cell 5 _ rfl
              have c116 := Z11.cell 6 _ rfl
              have HZ10 := Lib.hid Z10
              have HZ11 := Lib.hid Z11
              have HZ12 := Lib.hid Z12
              have HS := Lib.hid hS
              have HE := Lib.hid (fun (W : World) => (show Calls Tryd.prog 7 #[.slice (some ⟨W.heap.size, 0, none⟩) 4 4] (W.alloc (.cells (fl [la, ta, lb, tb]).toArray 28)) fun e w' => ∃ ne : Int, e = .returned (zagg ne lz tz) ∧ Later (W.alloc (.cells (fl [la, ta, lb, tb]).toArray 28)) w' from by
                have h := zoneOf_any (some ⟨W.heap.size, 0, none⟩) 4 4 [la, ta, lb, tb] (W.alloc (.cells (fl [la, ta, lb, tb]).toArray 28)) rfl (by simp) ((Blk.new W (fl [la, ta, lb, tb]).toArray 28 W.heap.size rfl).has)
                rw [← HEND.out.1, ← HEND.out.2.1] at h
                exact h.mono fun e w' h => ⟨_, h⟩))
              clear Z10 Z11 Z12 hS
              go_wp2_with fail
              refine (HE.out _).mono ?_
              rintro e wE ⟨ne, rfl, lE⟩
              have LE := Lib.hid ((Later.new _ _).trans lE)
              have LF := LE.out.trans (Later.new wE (.cells (zc ne lz.1 lz.2.1 lz.2.2 tz.1 tz.2.1 tz.2.2) 31))
              have Z15 := Blk.new wE (zc ne lz.1 lz.2.1 lz.2.2 tz.1 tz.2.1 tz.2.2) 31 wE.heap.size rfl
              have d151 := Z15.cell 1 _ rfl
              have d152 := Z15.cell 2 _ rfl
              have d153 := Z15.cell 3 _ rfl
              have d154 := Z15.cell 4 _ rfl
              have d155 := Z15.cell 5 _ rfl
              have d156 := Z15.cell 6 _ rfl
              have d120 := (HZ12.out.later LF).cell 0 _ rfl
              have d121 := (HZ12.out.later LF).cell 1 _ rfl
              have d122 := (HZ12.out.later LF).cell 2 _ rfl
              have d123 := (HZ12.out.later LF).cell 3 _ rfl
              have d124 := (HZ12.out.later LF).cell 4 _ rfl
              have d125 := (HZ12.out.later LF).cell 5 _ rfl
              have d126 := (HZ12.out.later LF).cell 6 _ rfl
              have d100 := (HZ10.out.later LF).cell 0 _ rfl
              have d110 := (HZ11.out.later LF).cell 0 _ rfl
              have zz := (Blk.new wE (zc 0 0 0 ⟨#[]⟩ 0 0 ⟨#[]⟩) 31 wE.heap.size rfl)
              have y150 := zz.frozen 0
              have y151 := zz.frozen 1
              have y152 := zz.frozen 2
              have y153 := zz.frozen 3
              have y154 := zz.frozen 4
              have y155 := zz.frozen 5
              have y156 := zz.frozen 6
              have hnn : (nz : Int) = (na : Int) + (nb : Int) := by have := HEND.out.2.2.1; omega
              clear lE zz Z15 c100 c110 c101 c111 c102 c112 c103 c113 c104 c114 c105 c115 c106 c116
              go_wp2_with fail
              go_ret
              exact ⟨rfl, HLAT.out.trans (HS.out.trans LF)⟩
          · refine stepK (o := { dst := some 14, op := _, type := _, pos := _, after := _, guard := _ }) rfl (fun K hK => ?_)
            go_simp
            obtain ⟨g12, hg12⟩ : ∃ x, x = w11.heap.size := ⟨_, rfl⟩
            have L12 := Later.new w11 (.cells (zc 0 0 0 ⟨#[]⟩ 0 0 ⟨#[]⟩) 31)
            have Z12 := Blk.new w11 (zc 0 0 0 ⟨#[]⟩ 0 0 ⟨#[]⟩) 31 g12 hg12
            have Z11 := Z11.later L12
            have N1112 : g11 ≠ g12 := by have := P11; omega
            have b12 : wr.heap.size ≤ g12 := by rw [hg12]; exact hS.size
            have P12 : g12 < (w11.alloc (.cells (zc 0 0 0 ⟨#[]⟩ 0 0 ⟨#[]⟩) 31)).heap.size := Z12.lt
            refine hK _ _ (hS.trans L12) (fun w12 h12 => ?_)
            rw [← hg12]
            clear hg12
            replace hS := hS.trans (L12.trans h12)
            replace Z11 := Z11.later h12
            replace Z12 := Z12.later h12
            replace P11 := Nat.lt_of_lt_of_le P11 (Later.size (L12.trans h12))
            replace P12 := Nat.lt_of_lt_of_le P12 h12.size
            clear hK L12 h12
            (try simp only [Act.put, List.setIfInBounds_toArray, List.set_cons_zero, List.set_cons_succ])
            refine wpAnyK_all (rs := [10]) (by kernel_rfl) (by simp) (fun i hi => ?_)
            simp only [List.mem_cons, List.not_mem_nil, or_false] at hi
            rcases hi with rfl
            · refine stepK (o := { dst := some 12, op := _, type := _, pos := _, after := _, guard := _ }) rfl (fun K hK => ?_)
              go_simp
              obtain ⟨g10, hg10⟩ : ∃ x, x = w12.heap.size := ⟨_, rfl⟩
              have L10 := Later.new w12 (.cells (zc 0 0 0 ⟨#[]⟩ 0 0 ⟨#[]⟩) 31)
              have Z10 := Blk.new w12 (zc 0 0 0 ⟨#[]⟩ 0 0 ⟨#[]⟩) 31 g10 hg10
              have Z11 := Z11.later L10
              have Z12 := Z12.later L10
              have N1110 : g11 ≠ g10 := by have := P11; omega
              have N1210 : g12 ≠ g10 := by have := P12; omega
              have b10 : wr.heap.size ≤ g10 := by rw [hg10]; exact hS.size
              have P10 : g10 < (w12.alloc (.cells (zc 0 0 0 ⟨#[]⟩ 0 0 ⟨#[]⟩) 31)).heap.size := Z10.lt
              refine hK _ _ (hS.trans L10) (fun w10 h10 => ?_)
              rw [← hg10]
              clear hg10
              replace hS := hS.trans (L10.trans h10)
              replace Z11 := Z11.later h10
              replace Z12 := Z12.later h10
              replace Z10 := Z10.later h10
              replace P11 := Nat.lt_of_lt_of_le P11 (Later.size (L10.trans h10))
              replace P12 := Nat.lt_of_lt_of_le P12 (Later.size (L10.trans h10))
              replace P10 := Nat.lt_of_lt_of_le P10 h10.size
              clear hK L10 h10
              (try simp only [Act.put, List.setIfInBounds_toArray, List.set_cons_zero, List.set_cons_succ])
              clear P10 P11 P12
              have c100 := Z10.cell 0 _ rfl
              have c101 := Z10.cell 1 _ rfl
              have c102 := Z10.cell 2 _ rfl
              have c103 := Z10.cell 3 _ rfl
              have c104 := Z10.cell 4 _ rfl
              have c105 := Z10.cell 5 _ rfl
              have c106 := Z10.cell 6 _ rfl
              have f100 := Z10.frozen 0
              have f101 := Z10.frozen 1
              have f102 := Z10.frozen 2
              have f103 := Z10.frozen 3
              have f104 := Z10.frozen 4
              have f105 := Z10.frozen 5
              have f106 := Z10.frozen 6
              refine wpAnyK_all (rs := [13]) (by kernel_rfl) (by simp) (fun i hi => ?_)
              simp only [List.mem_cons, List.not_mem_nil, or_false] at hi
              subst hi
              refine stepK (o := { dst := none, op := _, type := _, pos := _, after := _, guard := _ }) rfl (fun K hK => ?_)
              go_simp
              clear c100 f100 c101 f101 c102 f102 c103 f103 c104 f104 c105 f105 c106 f106
              refine hK _ _ (zset_later g10 (na : Int) la ta hS b10) (fun w13 h13 => ?_)
              replace hS := (zset_later g10 (na : Int) la ta hS b10).trans h13
              replace Z10 := (zput (na : Int) la ta Z10).later h13
              replace Z11 := (zset_far g10 (na : Int) la ta Z11 (by first | exact N1110 | exact N1011 | exact Ne.symm N1110 | exact Ne.symm N1011)).later h13
              replace Z12 := (zset_far g10 (na : Int) la ta Z12 (by first | exact N1210 | exact N1012 | exact Ne.symm N1210 | exact Ne.symm N1012)).later h13
              clear hK h13
              (try simp only [Act.put, List.setIfInBounds_toArray, List.set_cons_zero, List.set_cons_succ])
              have c110 := Z11.cell 0 _ rfl
              have c111 := Z11.cell 1 _ rfl
              have c112 := Z11.cell 2 _ rfl
              have c113 := Z11.cell 3 _ rfl
              have c114 := Z11.cell 4 _ rfl
              have c115 := Z11.cell 5 _ rfl
              have c116 := Z11.cell 6 _ rfl
              have f110 := Z11.frozen 0
              have f111 := Z11.frozen 1
              have f112 := Z11.frozen 2
              have f113 := Z11.frozen 3
              have f114 := Z11.frozen 4
              have f115 := Z11.frozen 5
              have f116 := Z11.frozen 6
              refine wpAnyK_all (rs := [14]) (by kernel_rfl) (by simp) (fun i hi => ?_)
              simp only [List.mem_cons, List.not_mem_nil, or_false] at hi
              subst hi
              refine stepK (o := { dst := none, op := _, type := _, pos := _, after := _, guard := _ }) rfl (fun K hK => ?_)
              go_simp
              clear c110 f110 c111 f111 c112 f112 c113 f113 c114 f114 c115 f115 c116 f116
              refine hK _ _ (zset_later g11 (nb : Int) lb tb hS b11) (fun w14 h14 => ?_)
              replace hS := (zset_later g11 (nb : Int) lb tb hS b11).trans h14
              replace Z11 := (zput (nb : Int) lb tb Z11).later h14
              replace Z10 := (zset_far g11 (nb : Int) lb tb Z10 (by first | exact N1011 | exact N1110 | exact Ne.symm N1011 | exact Ne.symm N1110)).later h14
              replace Z12 := (zset_far g11 (nb : Int) lb tb Z12 (by first | exact N1211 | exact N1112 | exact Ne.symm N1211 | exact Ne.symm N1112)).later h14
              clear hK h14
              (try simp only [Act.put, List.setIfInBounds_toArray, List.set_cons_zero, List.set_cons_succ])
              have c120 := Z12.cell 0 _ rfl
              have c121 := Z12.cell 1 _ rfl
              have c122 := Z12.cell 2 _ rfl
              have c123 := Z12.cell 3 _ rfl
              have c124 := Z12.cell 4 _ rfl
              have c125 := Z12.cell 5 _ rfl
              have c126 := Z12.cell 6 _ rfl
              have f120 := Z12.frozen 0
              have f121 := Z12.frozen 1
              have f122 := Z12.frozen 2
              have f123 := Z12.frozen 3
              have f124 := Z12.frozen 4
              have f125 := Z12.frozen 5
              have f126 := Z12.frozen 6
              refine wpAnyK_all (rs := [15]) (by kernel_rfl) (by simp) (fun i hi => ?_)
              simp only [List.mem_cons, List.not_mem_nil, or_false] at hi
              subst hi
              refine stepK (o := { dst := none, op := _, type := _, pos := _, after := _, guard := _ }) rfl (fun K hK => ?_)
              go_simp
              clear c120 f120 c121 f121 c122 f122 c123 f123 c124 f124 c125 f125 c126 f126
              refine hK _ _ (zset_later g12 (nz : Int) lz tz hS b12) (fun w15 h15 => ?_)
              replace hS := (zset_later g12 (nz : Int) lz tz hS b12).trans h15
              replace Z12 := (zput (nz : Int) lz tz Z12).later h15
              replace Z10 := (zset_far g12 (nz : Int) lz tz Z10 (by first | exact N1012 | exact N1210 | exact Ne.symm N1012 | exact Ne.symm N1210)).later h15
              replace Z11 := (zset_far g12 (nz : Int) lz tz Z11 (by first | exact N1112 | exact N1211 | exact Ne.symm N1112 | exact Ne.symm N1211)).later h15
              clear hK h15
              (try simp only [Act.put, List.setIfInBounds_toArray, List.set_cons_zero, List.set_cons_succ])
              refine wpAnyK_done (by kernel_rfl) ?_ _
              skip
              have c100 := Z10.cell 0 _ rfl
              have c101 := Z10.cell 1 _ rfl
              have c102 := Z10.cell 2 _ rfl
              have c103 := Z10.cell 3 _ rfl
              have c104 := Z10.cell 4 _ rfl
              have c105 := Z10.cell 5 _ rfl
              have c106 := Z10.cell 6 _ rfl
              have c110 := Z11.cell 0 _ rfl
              have c111 := Z11.cell 1 _ rfl
              have c112 := Z11.cell 2 _ rfl
              have c113 := Z11.cell 3 _ rfl
              have c114 := Z11.cell 4 _ rfl
              have c115 := Z11.cell 5 _ rfl
              have c116 := Z11.cell 6 _ rfl
              have HZ10 := Lib.hid Z10
              have HZ11 := Lib.hid Z11
              have HZ12 := Lib.hid Z12
              have HS := Lib.hid hS
              have HE := Lib.hid (fun (W : World) => (show Calls Tryd.prog 7 #[.slice (some ⟨W.heap.size, 0, none⟩) 4 4] (W.alloc (.cells (fl [la, ta, lb, tb]).toArray 28)) fun e w' => ∃ ne : Int, e = .returned (zagg ne lz tz) ∧ Later (W.alloc (.cells (fl [la, ta, lb, tb]).toArray 28)) w' from by
                have h := zoneOf_any (some ⟨W.heap.size, 0, none⟩) 4 4 [la, ta, lb, tb] (W.alloc (.cells (fl [la, ta, lb, tb]).toArray 28)) rfl (by simp) ((Blk.new W (fl [la, ta, lb, tb]).toArray 28 W.heap.size rfl).has)
                rw [← HEND.out.1, ← HEND.out.2.1] at h
                exact h.mono fun e w' h => ⟨_, h⟩))
              clear Z10 Z11 Z12 hS
              go_wp2_with fail
              refine (HE.out _).mono ?_
              rintro e wE ⟨ne, rfl, lE⟩
              have LE := Lib.hid ((Later.new _ _).trans lE)
              have LF := LE.out.trans (Later.new wE (.cells (zc ne lz.1 lz.2.1 lz.2.2 tz.1 tz.2.1 tz.2.2) 31))
              have Z15 := Blk.new wE (zc ne lz.1 lz.2.1 lz.2.2 tz.1 tz.2.1 tz.2.2) 31 wE.heap.size rfl
              have d151 := Z15.cell 1 _ rfl
              have d152 := Z15.cell 2 _ rfl
              have d153 := Z15.cell 3 _ rfl
              have d154 := Z15.cell 4 _ rfl
              have d155 := Z15.cell 5 _ rfl
              have d156 := Z15.cell 6 _ rfl
              have d120 := (HZ12.out.later LF).cell 0 _ rfl
              have d121 := (HZ12.out.later LF).cell 1 _ rfl
              have d122 := (HZ12.out.later LF).cell 2 _ rfl
              have d123 := (HZ12.out.later LF).cell 3 _ rfl
              have d124 := (HZ12.out.later LF).cell 4 _ rfl
              have d125 := (HZ12.out.later LF).cell 5 _ rfl
              have d126 := (HZ12.out.later LF).cell 6 _ rfl
              have d100 := (HZ10.out.later LF).cell 0 _ rfl
              have d110 := (HZ11.out.later LF).cell 0 _ rfl
              have zz := (Blk.new wE (zc 0 0 0 ⟨#[]⟩ 0 0 ⟨#[]⟩) 31 wE.heap.size rfl)
              have y150 := zz.frozen 0
              have y151 := zz.frozen 1
              have y152 := zz.frozen 2
              have y153 := zz.frozen 3
              have y154 := zz.frozen 4
              have y155 := zz.frozen 5
              have y156 := zz.frozen 6
              have hnn : (nz : Int) = (na : Int) + (nb : Int) := by have := HEND.out.2.2.1; omega
              clear lE zz Z15 c100 c110 c101 c111 c102 c112 c103 c113 c104 c114 c105 c115 c106 c116
              go_wp2_with fail
              go_ret
              exact ⟨rfl, HLAT.out.trans (HS.out.trans LF)⟩
        · refine stepK (o := { dst := some 14, op := _, type := _, pos := _, after := _, guard := _ }) rfl (fun K hK => ?_)
          go_simp
          obtain ⟨g12, hg12⟩ : ∃ x, x = w9.heap.size := ⟨_, rfl⟩
          have L12 := Later.new w9 (.cells (zc 0 0 0 ⟨#[]⟩ 0 0 ⟨#[]⟩) 31)
          have Z12 := Blk.new w9 (zc 0 0 0 ⟨#[]⟩ 0 0 ⟨#[]⟩) 31 g12 hg12
          have b12 : wr.heap.size ≤ g12 := by rw [hg12]; exact hS.size
          have P12 : g12 < (w9.alloc (.cells (zc 0 0 0 ⟨#[]⟩ 0 0 ⟨#[]⟩) 31)).heap.size := Z12.lt
          refine hK _ _ (hS.trans L12) (fun w12 h12 => ?_)
          rw [← hg12]
          clear hg12
          replace hS := hS.trans (L12.trans h12)
          replace Z12 := Z12.later h12
          replace P12 := Nat.lt_of_lt_of_le P12 h12.size
          clear hK L12 h12
          (try simp only [Act.put, List.setIfInBounds_toArray, List.set_cons_zero, List.set_cons_succ])
          refine wpAnyK_all (rs := [10, 11]) (by kernel_rfl) (by simp) (fun i hi => ?_)
          simp only [List.mem_cons, List.not_mem_nil, or_false] at hi
          rcases hi with rfl | rfl
          · refine stepK (o := { dst := some 12, op := _, type := _, pos := _, after := _, guard := _ }) rfl (fun K hK => ?_)
            go_simp
            obtain ⟨g10, hg10⟩ : ∃ x, x = w12.heap.size := ⟨_, rfl⟩
            have L10 := Later.new w12 (.cells (zc 0 0 0 ⟨#[]⟩ 0 0 ⟨#[]⟩) 31)
            have Z10 := Blk.new w12 (zc 0 0 0 ⟨#[]⟩ 0 0 ⟨#[]⟩) 31 g10 hg10
            have Z12 := Z12.later L10
            have N1210 : g12 ≠ g10 := by have := P12; omega
            have b10 : wr.heap.size ≤ g10 := by rw [hg10]; exact hS.size
            have P10 : g10 < (w12.alloc (.cells (zc 0 0 0 ⟨#[]⟩ 0 0 ⟨#[]⟩) 31)).heap.size := Z10.lt
            refine hK _ _ (hS.trans L10) (fun w10 h10 => ?_)
            rw [← hg10]
            clear hg10
            replace hS := hS.trans (L10.trans h10)
            replace Z12 := Z12.later h10
            replace Z10 := Z10.later h10
            replace P12 := Nat.lt_of_lt_of_le P12 (Later.size (L10.trans h10))
            replace P10 := Nat.lt_of_lt_of_le P10 h10.size
            clear hK L10 h10
            (try simp only [Act.put, List.setIfInBounds_toArray, List.set_cons_zero, List.set_cons_succ])
            refine wpAnyK_all (rs := [11]) (by kernel_rfl) (by simp) (fun i hi => ?_)
            simp only [List.mem_cons, List.not_mem_nil, or_false] at hi
            rcases hi with rfl
            · refine stepK (o := { dst := some 13, op := _, type := _, pos := _, after := _, guard := _ }) rfl (fun K hK => ?_)
              go_simp
              obtain ⟨g11, hg11⟩ : ∃ x, x = w10.heap.size := ⟨_, rfl⟩
              have L11 := Later.new w10 (.cells (zc 0 0 0 ⟨#[]⟩ 0 0 ⟨#[]⟩) 31)
              have Z11 := Blk.new w10 (zc 0 0 0 ⟨#[]⟩ 0 0 ⟨#[]⟩) 31 g11 hg11
              have Z12 := Z12.later L11
              have Z10 := Z10.later L11
              have N1211 : g12 ≠ g11 := by have := P12; omega
              have N1011 : g10 ≠ g11 := by have := P10; omega
              have b11 : wr.heap.size ≤ g11 := by rw [hg11]; exact hS.size
              have P11 : g11 < (w10.alloc (.cells (zc 0 0 0 ⟨#[]⟩ 0 0 ⟨#[]⟩) 31)).heap.size := Z11.lt
              refine hK _ _ (hS.trans L11) (fun w11 h11 => ?_)
              rw [← hg11]
              clear hg11
              replace hS := hS.trans (L11.trans h11)
              replace Z12 := Z12.later h11
              replace Z10 := Z10.later h11
              replace Z11 := Z11.later h11
              replace P12 := Nat.lt_of_lt_of_le P12 (Later.size (L11.trans h11))
              replace P10 := Nat.lt_of_lt_of_le P10 (Later.size (L11.trans h11))
              replace P11 := Nat.lt_of_lt_of_le P11 h11.size
              clear hK L11 h11
              (try simp only [Act.put, List.setIfInBounds_toArray, List.set_cons_zero, List.set_cons_succ])
              clear P10 P11 P12
              have c100 := Z10.cell 0 _ rfl
              have c101 := Z10.cell 1 _ rfl
              have c102 := Z10.cell 2 _ rfl
              have c103 := Z10.cell 3 _ rfl
              have c104 := Z10.cell 4 _ rfl
              have c105 := Z10.cell 5 _ rfl
              have c106 := Z10.cell 6 _ rfl
              have f100 := Z10.frozen 0
              have f101 := Z10.frozen 1
              have f102 := Z10.frozen 2
              have f103 := Z10.frozen 3
              have f104 := Z10.frozen 4
              have f105 := Z10.frozen 5
              have f106 := Z10.frozen 6
              refine wpAnyK_all (rs := [13]) (by kernel_rfl) (by simp) (fun i hi => ?_)
              simp only [List.mem_cons, List.not_mem_nil, or_false] at hi
              subst hi
              refine stepK (o := { dst := none, op := _, type := _, pos := _, after := _, guard := _ }) rfl (fun K hK => ?_)
              go_simp
              clear c100 f100 c101 f101 c102 f102 c103 f103 c104 f104 c105 f105 c106 f106
              refine hK _ _ (zset_later g10 (na : Int) la ta hS b10) (fun w13 h13 => ?_)
              replace hS := (zset_later g10 (na : Int) la ta hS b10).trans h13
              replace Z10 := (zput (na : Int) la ta Z10).later h13
              replace Z11 := (zset_far g10 (na : Int) la ta Z11 (by first | exact N1110 | exact N1011 | exact Ne.symm N1110 | exact Ne.symm N1011)).later h13
              replace Z12 := (zset_far g10 (na : Int) la ta Z12 (by first | exact N1210 | exact N1012 | exact Ne.symm N1210 | exact Ne.symm N1012)).later h13
              clear hK h13
              (try simp only [Act.put, List.setIfInBounds_toArray, List.set_cons_zero, List.set_cons_succ])
              have c110 := Z11.cell 0 _ rfl
              have c111 := Z11.cell 1 _ rfl
              have c112 := Z11.cell 2 _ rfl
              have c113 := Z11.cell 3 _ rfl
              have c114 := Z11.cell 4 _ rfl
              have c115 := Z11.cell 5 _ rfl
              have c116 := Z11.cell 6 _ rfl
              have f110 := Z11.frozen 0
              have f111 := Z11.frozen 1
              have f112 := Z11.frozen 2
              have f113 := Z11.frozen 3
              have f114 := Z11.frozen 4
              have f115 := Z11.frozen 5
              have f116 := Z11.frozen 6
              refine wpAnyK_all (rs := [14]) (by kernel_rfl) (by simp) (fun i hi => ?_)
              simp only [List.mem_cons, List.not_mem_nil, or_false] at hi
              subst hi
              refine stepK (o := { dst := none, op := _, type := _, pos := _, after := _, guard := _ }) rfl (fun K hK => ?_)
              go_simp
              clear c110 f110 c111 f111 c112 f112 c113 f113 c114 f114 c115 f115 c116 f116
              refine hK _ _ (zset_later g11 (nb : Int) lb tb hS b11) (fun w14 h14 => ?_)
              replace hS := (zset_later g11 (nb : Int) lb tb hS b11).trans h14
              replace Z11 := (zput (nb : Int) lb tb Z11).later h14
              replace Z10 := (zset_far g11 (nb : Int) lb tb Z10 (by first | exact N1011 | exact N1110 | exact Ne.symm N1011 | exact Ne.symm N1110)).later h14
              replace Z12 := (zset_far g11 (nb : Int) lb tb Z12 (by first | exact N1211 | exact N1112 | exact Ne.symm N1211 | exact Ne.symm N1112)).later h14
              clear hK h14
              (try simp only [Act.put, List.setIfInBounds_toArray, List.set_cons_zero, List.set_cons_succ])
              have c120 := Z12.cell 0 _ rfl
              have c121 := Z12.cell 1 _ rfl
              have c122 := Z12.cell 2 _ rfl
              have c123 := Z12.cell 3 _ rfl
              have c124 := Z12.cell 4 _ rfl
              have c125 := Z12.cell 5 _ rfl
              have c126 := Z12.cell 6 _ rfl
              have f120 := Z12.frozen 0
              have f121 := Z12.frozen 1
              have f122 := Z12.frozen 2
              have f123 := Z12.frozen 3
              have f124 := Z12.frozen 4
              have f125 := Z12.frozen 5
              have f126 := Z12.frozen 6
              refine wpAnyK_all (rs := [15]) (by kernel_rfl) (by simp) (fun i hi => ?_)
              simp only [List.mem_cons, List.not_mem_nil, or_false] at hi
              subst hi
              refine stepK (o := { dst := none, op := _, type := _, pos := _, after := _, guard := _ }) rfl (fun K hK => ?_)
              go_simp
              clear c120 f120 c121 f121 c122 f122 c123 f123 c124 f124 c125 f125 c126 f126
              refine hK _ _ (zset_later g12 (nz : Int) lz tz hS b12) (fun w15 h15 => ?_)
              replace hS := (zset_later g12 (nz : Int) lz tz hS b12).trans h15
              replace Z12 := (zput (nz : Int) lz tz Z12).later h15
              replace Z10 := (zset_far g12 (nz : Int) lz tz Z10 (by first | exact N1012 | exact N1210 | exact Ne.symm N1012 | exact Ne.symm N1210)).later h15
              replace Z11 := (zset_far g12 (nz : Int) lz tz Z11 (by first | exact N1112 | exact N1211 | exact Ne.symm N1112 | exact Ne.symm N1211)).later h15
              clear hK h15
              (try simp only [Act.put, List.setIfInBounds_toArray, List.set_cons_zero, List.set_cons_succ])
              refine wpAnyK_done (by kernel_rfl) ?_ _
              skip
              have c100 := Z10.cell 0 _ rfl
              have c101 := Z10.cell 1 _ rfl
              have c102 := Z10.cell 2 _ rfl
              have c103 := Z10.cell 3 _ rfl
              have c104 := Z10.cell 4 _ rfl
              have c105 := Z10.cell 5 _ rfl
              have c106 := Z10.cell 6 _ rfl
              have c110 := Z11.cell 0 _ rfl
              have c111 := Z11.cell 1 _ rfl
              have c112 := Z11.cell 2 _ rfl
              have c113 := Z11.cell 3 _ rfl
              have c114 := Z11.cell 4 _ rfl
              have c115 := Z11.cell 5 _ rfl
              have c116 := Z11.cell 6 _ rfl
              have HZ10 := Lib.hid Z10
              have HZ11 := Lib.hid Z11
              have HZ12 := Lib.hid Z12
              have HS := Lib.hid hS
              have HE := Lib.hid (fun (W : World) => (show Calls Tryd.prog 7 #[.slice (some ⟨W.heap.size, 0, none⟩) 4 4] (W.alloc (.cells (fl [la, ta, lb, tb]).toArray 28)) fun e w' => ∃ ne : Int, e = .returned (zagg ne lz tz) ∧ Later (W.alloc (.cells (fl [la, ta, lb, tb]).toArray 28)) w' from by
                have h := zoneOf_any (some ⟨W.heap.size, 0, none⟩) 4 4 [la, ta, lb, tb] (W.alloc (.cells (fl [la, ta, lb, tb]).toArray 28)) rfl (by simp) ((Blk.new W (fl [la, ta, lb, tb]).toArray 28 W.heap.size rfl).has)
                rw [← HEND.out.1, ← HEND.out.2.1] at h
                exact h.mono fun e w' h => ⟨_, h⟩))
              clear Z10 Z11 Z12 hS
              go_wp2_with fail
              refine (HE.out _).mono ?_
              rintro e wE ⟨ne, rfl, lE⟩
              have LE := Lib.hid ((Later.new _ _).trans lE)
              have LF := LE.out.trans (Later.new wE (.cells (zc ne lz.1 lz.2.1 lz.2.2 tz.1 tz.2.1 tz.2.2) 31))
              have Z15 := Blk.new wE (zc ne lz.1 lz.2.1 lz.2.2 tz.1 tz.2.1 tz.2.2) 31 wE.heap.size rfl
              have d151 := Z15.cell 1 _ rfl
              have d152 := Z15.cell 2 _ rfl
              have d153 := Z15.cell 3 _ rfl
              have d154 := Z15.cell 4 _ rfl
              have d155 := Z15.cell 5 _ rfl
              have d156 := Z15.cell 6 _ rfl
              have d120 := (HZ12.out.later LF).cell 0 _ rfl
              have d121 := (HZ12.out.later LF).cell 1 _ rfl
              have d122 := (HZ12.out.later LF).cell 2 _ rfl
              have d123 := (HZ12.out.later LF).cell 3 _ rfl
              have d124 := (HZ12.out.later LF).cell 4 _ rfl
              have d125 := (HZ12.out.later LF).cell 5 _ rfl
              have d126 := (HZ12.out.later LF).cell 6 _ rfl
              have d100 := (HZ10.out.later LF).cell 0 _ rfl
              have d110 := (HZ11.out.later LF).cell 0 _ rfl
              have zz := (Blk.new wE (zc 0 0 0 ⟨#[]⟩ 0 0 ⟨#[]⟩) 31 wE.heap.size rfl)
              have y150 := zz.frozen 0
              have y151 := zz.frozen 1
              have y152 := zz.frozen 2
              have y153 := zz.frozen 3
              have y154 := zz.frozen 4
              have y155 := zz.frozen 5
              have y156 := zz.frozen 6
              have hnn : (nz : Int) = (na : Int) + (nb : Int) := by have := HEND.out.2.2.1; omega
              clear lE zz Z15 c100 c110 c101 c111 c102 c112 c103 c113 c104 c114 c105 c115 c106 c116
              go_wp2_with fail
              go_ret
              exact ⟨rfl, HLAT.out.trans (HS.out.trans LF)⟩
          · refine stepK (o := { dst := some 13, op := _, type := _, pos := _, after := _, guard := _ }) rfl (fun K hK => ?_)
            go_simp
            obtain ⟨g11, hg11⟩ : ∃ x, x = w12.heap.size := ⟨_, rfl⟩
            have L11 := Later.new w12 (.cells (zc 0 0 0 ⟨#[]⟩ 0 0 ⟨#[]⟩) 31)
            have Z11 := Blk.new w12 (zc 0 0 0 ⟨#[]⟩ 0 0 ⟨#[]⟩) 31 g11 hg11
            have Z12 := Z12.later L11
            have N1211 : g12 ≠ g11 := by have := P12; omega
            have b11 : wr.heap.size ≤ g11 := by rw [hg11]; exact hS.size
            have P11 : g11 < (w12.alloc (.cells (zc 0 0 0 ⟨#[]⟩ 0 0 ⟨#[]⟩) 31)).heap.size := Z11.lt
            refine hK _ _ (hS.trans L11) (fun w11 h11 => ?_)
            rw [← hg11]
            clear hg11
            replace hS := hS.trans (L11.trans h11)
            replace Z12 := Z12.later h11
            replace Z11 := Z11.later h11
            replace P12 := Nat.lt_of_lt_of_le P12 (Later.size (L11.trans h11))
            replace P11 := Nat.lt_of_lt_of_le P11 h11.size
            clear hK L11 h11
            (try simp only [Act.put, List.setIfInBounds_toArray, List.set_cons_zero, List.set_cons_succ])
            refine wpAnyK_all (rs := [10]) (by kernel_rfl) (by simp) (fun i hi => ?_)
            simp only [List.mem_cons, List.not_mem_nil, or_false] at hi
            rcases hi with rfl
            · refine stepK (o := { dst := some 12, op := _, type := _, pos := _, after := _, guard := _ }) rfl (fun K hK => ?_)
              go_simp
              obtain ⟨g10, hg10⟩ : ∃ x, x = w11.heap.size := ⟨_, rfl⟩
              have L10 := Later.new w11 (.cells (zc 0 0 0 ⟨#[]⟩ 0 0 ⟨#[]⟩) 31)
              have Z10 := Blk.new w11 (zc 0 0 0 ⟨#[]⟩ 0 0 ⟨#[]⟩) 31 g10 hg10
              have Z12 := Z12.later L10
              have Z11 := Z11.later L10
              have N1210 : g12 ≠ g10 := by have := P12; omega
              have N1110 : g11 ≠ g10 := by have := P11; omega
              have b10 : wr.heap.size ≤ g10 := by rw [hg10]; exact hS.size
              have P10 : g10 < (w11.alloc (.cells (zc 0 0 0 ⟨#[]⟩ 0 0 ⟨#[]⟩) 31)).heap.size := Z10.lt
              refine hK _ _ (hS.trans L10) (fun w10 h10 => ?_)
              rw [← hg10]
              clear hg10
              replace hS := hS.trans (L10.trans h10)
              replace Z12 := Z12.later h10
              replace Z11 := Z11.later h10
              replace Z10 := Z10.later h10
              replace P12 := Nat.lt_of_lt_of_le P12 (Later.size (L10.trans h10))
              replace P11 := Nat.lt_of_lt_of_le P11 (Later.size (L10.trans h10))
              replace P10 := Nat.lt_of_lt_of_le P10 h10.size
              clear hK L10 h10
              (try simp only [Act.put, List.setIfInBounds_toArray, List.set_cons_zero, List.set_cons_succ])
              clear P10 P11 P12
              have c100 := Z10.cell 0 _ rfl
              have c101 := Z10.cell 1 _ rfl
              have c102 := Z10.cell 2 _ rfl
              have c103 := Z10.cell 3 _ rfl
              have c104 := Z10.cell 4 _ rfl
              have c105 := Z10.cell 5 _ rfl
              have c106 := Z10.cell 6 _ rfl
              have f100 := Z10.frozen 0
              have f101 := Z10.frozen 1
              have f102 := Z10.frozen 2
              have f103 := Z10.frozen 3
              have f104 := Z10.frozen 4
              have f105 := Z10.frozen 5
              have f106 := Z10.frozen 6
              refine wpAnyK_all (rs := [13]) (by kernel_rfl) (by simp) (fun i hi => ?_)
              simp only [List.mem_cons, List.not_mem_nil, or_false] at hi
              subst hi
              refine stepK (o := { dst := none, op := _, type := _, pos := _, after := _, guard := _ }) rfl (fun K hK => ?_)
              go_simp
              clear c100 f100 c101 f101 c102 f102 c103 f103 c104 f104 c105 f105 c106 f106
              refine hK _ _ (zset_later g10 (na : Int) la ta hS b10) (fun w13 h13 => ?_)
              replace hS := (zset_later g10 (na : Int) la ta hS b10).trans h13
              replace Z10 := (zput (na : Int) la ta Z10).later h13
              replace Z11 := (zset_far g10 (na : Int) la ta Z11 (by first | exact N1110 | exact N1011 | exact Ne.symm N1110 | exact Ne.symm N1011)).later h13
              replace Z12 := (zset_far g10 (na : Int) la ta Z12 (by first | exact N1210 | exact N1012 | exact Ne.symm N1210 | exact Ne.symm N1012)).later h13
              clear hK h13
              (try simp only [Act.put, List.setIfInBounds_toArray, List.set_cons_zero, List.set_cons_succ])
              have c110 := Z11.cell 0 _ rfl
              have c111 := Z11.cell 1 _ rfl
              have c112 := Z11.cell 2 _ rfl
              have c113 := Z11.cell 3 _ rfl
              have c114 := Z11.cell 4 _ rfl
              have c115 := Z11.cell 5 _ rfl
              have c116 := Z11.cell 6 _ rfl
              have f110 := Z11.frozen 0
              have f111 := Z11.frozen 1
              have f112 := Z11.frozen 2
              have f113 := Z11.frozen 3
              have f114 := Z11.frozen 4
              have f115 := Z11.frozen 5
              have f116 := Z11.frozen 6
              refine wpAnyK_all (rs := [14]) (by kernel_rfl) (by simp) (fun i hi => ?_)
              simp only [List.mem_cons, List.not_mem_nil, or_false] at hi
              subst hi
              refine stepK (o := { dst := none, op := _, type := _, pos := _, after := _, guard := _ }) rfl (fun K hK => ?_)
              go_simp
              clear c110 f110 c111 f111 c112 f112 c113 f113 c114 f114 c115 f115 c116 f116
              refine hK _ _ (zset_later g11 (nb : Int) lb tb hS b11) (fun w14 h14 => ?_)
              replace hS := (zset_later g11 (nb : Int) lb tb hS b11).trans h14
              replace Z11 := (zput (nb : Int) lb tb Z11).later h14
              replace Z10 := (zset_far g11 (nb : Int) lb tb Z10 (by first | exact N1011 | exact N1110 | exact Ne.symm N1011 | exact Ne.symm N1110)).later h14
              replace Z12 := (zset_far g11 (nb : Int) lb tb Z12 (by first | exact N1211 | exact N1112 | exact Ne.symm N1211 | exact Ne.symm N1112)).later h14
              clear hK h14
              (try simp only [Act.put, List.setIfInBounds_toArray, List.set_cons_zero, List.set_cons_succ])
              have c120 := Z12.cell 0 _ rfl
              have c121 := Z12.cell 1 _ rfl
              have c122 := Z12.cell 2 _ rfl
              have c123 := Z12.cell 3 _ rfl
              have c124 := Z12.cell 4 _ rfl
              have c125 := Z12.cell 5 _ rfl
              have c126 := Z12.cell 6 _ rfl
              have f120 := Z12.frozen 0
              have f121 := Z12.frozen 1
              have f122 := Z12.frozen 2
              have f123 := Z12.frozen 3
              have f124 := Z12.frozen 4
              have f125 := Z12.frozen 5
              have f126 := Z12.frozen 6
              refine wpAnyK_all (rs := [15]) (by kernel_rfl) (by simp) (fun i hi => ?_)
              simp only [List.mem_cons, List.not_mem_nil, or_false] at hi
              subst hi
              refine stepK (o := { dst := none, op := _, type := _, pos := _, after := _, guard := _ }) rfl (fun K hK => ?_)
              go_simp
              clear c120 f120 c121 f121 c122 f122 c123 f123 c124 f124 c125 f125 c126 f126
              refine hK _ _ (zset_later g12 (nz : Int) lz tz hS b12) (fun w15 h15 => ?_)
              replace hS := (zset_later g12 (nz : Int) lz tz hS b12).trans h15
              replace Z12 := (zput (nz : Int) lz tz Z12).later h15
              replace Z10 := (zset_far g12 (nz : Int) lz tz Z10 (by first | exact N1012 | exact N1210 | exact Ne.symm N1012 | exact Ne.symm N1210)).later h15
              replace Z11 := (zset_far g12 (nz : Int) lz tz Z11 (by first | exact N1112 | exact N1211 | exact Ne.symm N1112 | exact Ne.symm N1211)).later h15
              clear hK h15
              (try simp only [Act.put, List.setIfInBounds_toArray, List.set_cons_zero, List.set_cons_succ])
              refine wpAnyK_done (by kernel_rfl) ?_ _
              skip
              have c100 := Z10.cell 0 _ rfl
              have c101 := Z10.cell 1 _ rfl
              have c102 := Z10.cell 2 _ rfl
              have c103 := Z10.cell 3 _ rfl
              have c104 := Z10.cell 4 _ rfl
              have c105 := Z10.cell 5 _ rfl
              have c106 := Z10.cell 6 _ rfl
              have c110 := Z11.cell 0 _ rfl
              have c111 := Z11.cell 1 _ rfl
              have c112 := Z11.cell 2 _ rfl
              have c113 := Z11.cell 3 _ rfl
              have c114 := Z11.cell 4 _ rfl
              have c115 := Z11.cell 5 _ rfl
              have c116 := Z11.cell 6 _ rfl
              have HZ10 := Lib.hid Z10
              have HZ11 := Lib.hid Z11
              have HZ12 := Lib.hid Z12
              have HS := Lib.hid hS
              have HE := Lib.hid (fun (W : World) => (show Calls Tryd.prog 7 #[.slice (some ⟨W.heap.size, 0, none⟩) 4 4] (W.alloc (.cells (fl [la, ta, lb, tb]).toArray 28)) fun e w' => ∃ ne : Int, e = .returned (zagg ne lz tz) ∧ Later (W.alloc (.cells (fl [la, ta, lb, tb]).toArray 28)) w' from by
                have h := zoneOf_any (some ⟨W.heap.size, 0, none⟩) 4 4 [la, ta, lb, tb] (W.alloc (.cells (fl [la, ta, lb, tb]).toArray 28)) rfl (by simp) ((Blk.new W (fl [la, ta, lb, tb]).toArray 28 W.heap.size rfl).has)
                rw [← HEND.out.1, ← HEND.out.2.1] at h
                exact h.mono fun e w' h => ⟨_, h⟩))
              clear Z10 Z11 Z12 hS
              go_wp2_with fail
              refine (HE.out _).mono ?_
              rintro e wE ⟨ne, rfl, lE⟩
              have LE := Lib.hid ((Later.new _ _).trans lE)
              have LF := LE.out.trans (Later.new wE (.cells (zc ne lz.1 lz.2.1 lz.2.2 tz.1 tz.2.1 tz.2.2) 31))
              have Z15 := Blk.new wE (zc ne lz.1 lz.2.1 lz.2.2 tz.1 tz.2.1 tz.2.2) 31 wE.heap.size rfl
              have d151 := Z15.cell 1 _ rfl
              have d152 := Z15.cell 2 _ rfl
              have d153 := Z15.cell 3 _ rfl
              have d154 := Z15.cell 4 _ rfl
              have d155 := Z15.cell 5 _ rfl
              have d156 := Z15.cell 6 _ rfl
              have d120 := (HZ12.out.later LF).cell 0 _ rfl
              have d121 := (HZ12.out.later LF).cell 1 _ rfl
              have d122 := (HZ12.out.later LF).cell 2 _ rfl
              have d123 := (HZ12.out.later LF).cell 3 _ rfl
              have d124 := (HZ12.out.later LF).cell 4 _ rfl
              have d125 := (HZ12.out.later LF).cell 5 _ rfl
              have d126 := (HZ12.out.later LF).cell 6 _ rfl
              have d100 := (HZ10.out.later LF).cell 0 _ rfl
              have d110 := (HZ11.out.later LF).cell 0 _ rfl
              have zz := (Blk.new wE (zc 0 0 0 ⟨#[]⟩ 0 0 ⟨#[]⟩) 31 wE.heap.size rfl)
              have y150 := zz.frozen 0
              have y151 := zz.frozen 1
              have y152 := zz.frozen 2
              have y153 := zz.frozen 3
              have y154 := zz.frozen 4
              have y155 := zz.frozen 5
              have y156 := zz.frozen 6
              have hnn : (nz : Int) = (na : Int) + (nb : Int) := by have := HEND.out.2.2.1; omega
              clear lE zz Z15 c100 c110 c101 c111 c102 c112 c103 c113 c104 c114 c105 c115 c106 c116
              go_wp2_with fail
              go_ret
              exact ⟨rfl, HLAT.out.trans (HS.out.trans LF)⟩
      · have hi1 : (0 : Int) ≤ (q : Int) := by omega
        have hi2 : (q : Int) ≤ 20 := by omega
        have hi3 : (q : Int) ≤ (cl : Int) := by omega
        have hi4 : (20 : Int) ≤ (cl : Int) := by omega
        have hc2 : (cl : Int) - (q : Int) = ((cl - q : Nat) : Int) := by omega
        have hc3 : (20 : Int) - (q : Int) = ((20 - q : Nat) : Int) := by omega
        have hcq : (cl = q) = True := by simp; omega
        have HA2b := Lib.hid (HA2b.out (by omega))
        go_wp2_with fail
        refine wp_region_K (S := fun W => Later wr W) (R := Later) Later.refl (by kernel_rfl) ?_
        have hS : Later wr wr.drew := (Later.refl wr).drew
        refine wpAnyK_take Later.refl (fun _ _ _ h k => h.trans k) (fun _ _ h k => h.trans k) (i := 0) (oi := { dst := some 40, op := _, type := _, pos := _, after := _, guard := _ }) (v := ?_) rfl (by kernel_rfl) (by kernel_rfl) (by kernel_rfl) (fun _ _ _ h => h) (Or.inl (Or.inl ⟨by rfl, ?_⟩)) hS ?_
        rotate_left
        focus ((intro w hSw; (try dsimp only at hSw); go_simp); (try with_reducible rfl))
        intro w0 hw0
        replace hS := hS.trans hw0
        (try simp only [Act.put, List.setIfInBounds_toArray, List.set_cons_zero, List.set_cons_succ])
        clear hw0
        refine wpAnyK_take Later.refl (fun _ _ _ h k => h.trans k) (fun _ _ h k => h.trans k) (i := 1) (oi := { dst := some 41, op := _, type := _, pos := _, after := _, guard := _ }) (v := ?_) rfl (by kernel_rfl) (by kernel_rfl) (by kernel_rfl) (fun _ _ _ h => h) (Or.inl (Or.inl ⟨by rfl, ?_⟩)) hS ?_
        rotate_left
        focus ((intro w hSw; (try dsimp only at hSw); go_simp); (try with_reducible rfl))
        intro w1 hw1
        replace hS := hS.trans hw1
        (try simp only [Act.put, List.setIfInBounds_toArray, List.set_cons_zero, List.set_cons_succ])
        clear hw1
        refine wpAnyK_take Later.refl (fun _ _ _ h k => h.trans k) (fun _ _ h k => h.trans k) (i := 2) (oi := { dst := some 42, op := _, type := _, pos := _, after := _, guard := _ }) (v := ?_) rfl (by kernel_rfl) (by kernel_rfl) (by kernel_rfl) (fun _ _ _ h => h) (Or.inl (Or.inl ⟨by rfl, ?_⟩)) hS ?_
        rotate_left
        focus ((intro w hSw; (try dsimp only at hSw); go_simp); (try with_reducible rfl))
        intro w2 hw2
        replace hS := hS.trans hw2
        (try simp only [Act.put, List.setIfInBounds_toArray, List.set_cons_zero, List.set_cons_succ])
        clear hw2
        refine wpAnyK_take Later.refl (fun _ _ _ h k => h.trans k) (fun _ _ h k => h.trans k) (i := 3) (oi := { dst := some 43, op := _, type := _, pos := _, after := _, guard := _ }) (v := zagg (na : Int) la ta) rfl (by kernel_rfl) (by kernel_rfl) (by kernel_rfl) (fun _ _ _ h => h) (Or.inr ⟨by rfl, 7, #[.slice (some ⟨gb, 0, none⟩) q cl], fun W hW => ⟨?_, HA1.out W hW⟩⟩) hS ?_
        · first | rfl | (go_simp; done)
        intro w3 hw3
        replace hS := hS.trans hw3
        (try simp only [Act.put, List.setIfInBounds_toArray, List.set_cons_zero, List.set_cons_succ])
        clear hw3
        refine wpAnyK_take Later.refl (fun _ _ _ h k => h.trans k) (fun _ _ h k => h.trans k) (i := 4) (oi := { dst := some 44, op := _, type := _, pos := _, after := _, guard := _ }) (v := ?_) rfl (by kernel_rfl) (by kernel_rfl) (by kernel_rfl) (fun _ _ _ h => h) (Or.inl (Or.inl ⟨by rfl, ?_⟩)) hS ?_
        rotate_left
        focus ((intro w hSw; (try dsimp only at hSw); go_simp); (try with_reducible rfl))
        intro w4 hw4
        replace hS := hS.trans hw4
        (try simp only [Act.put, List.setIfInBounds_toArray, List.set_cons_zero, List.set_cons_succ])
        clear hw4
        refine wpAnyK_take Later.refl (fun _ _ _ h k => h.trans k) (fun _ _ h k => h.trans k) (i := 5) (oi := { dst := some 45, op := _, type := _, pos := _, after := _, guard := _ }) (v := ?_) rfl (by kernel_rfl) (by kernel_rfl) (by kernel_rfl) (fun _ _ _ h => h) (Or.inl (Or.inl ⟨by rfl, ?_⟩)) hS ?_
        rotate_left
        focus ((intro w hSw; (try dsimp only at hSw); go_simp); (try with_reducible rfl))
        intro w5 hw5
        replace hS := hS.trans hw5
        (try simp only [Act.put, List.setIfInBounds_toArray, List.set_cons_zero, List.set_cons_succ])
        clear hw5
        refine wpAnyK_take Later.refl (fun _ _ _ h k => h.trans k) (fun _ _ h k => h.trans k) (i := 6) (oi := { dst := some 46, op := _, type := _, pos := _, after := _, guard := _ }) (v := ?_) rfl (by kernel_rfl) (by kernel_rfl) (by kernel_rfl) (fun _ _ _ h => h) (Or.inl (Or.inl ⟨by rfl, ?_⟩)) hS ?_
        rotate_left
        focus ((intro w hSw; (try dsimp only at hSw); go_simp); (try with_reducible rfl))
        intro w6 hw6
        replace hS := hS.trans hw6
        (try simp only [Act.put, List.setIfInBounds_toArray, List.set_cons_zero, List.set_cons_succ])
        clear hw6
        refine wpAnyK_take Later.refl (fun _ _ _ h k => h.trans k) (fun _ _ h k => h.trans k) (i := 7) (oi := { dst := some 47, op := _, type := _, pos := _, after := _, guard := _ }) (v := zagg (nb : Int) lb tb) rfl (by kernel_rfl) (by kernel_rfl) (by kernel_rfl) (fun _ _ _ h => h) (Or.inr ⟨by rfl, 7, #[.slice (some ⟨gb, 0, none⟩) (20 - q) (cl - q)], fun W hW => ⟨?_, HA2b.out W hW⟩⟩) hS ?_
        · first | rfl | (go_simp; done)
        intro w7 hw7
        replace hS := hS.trans hw7
        (try simp only [Act.put, List.setIfInBounds_toArray, List.set_cons_zero, List.set_cons_succ])
        clear hw7
        refine wpAnyK_take Later.refl (fun _ _ _ h k => h.trans k) (fun _ _ h k => h.trans k) (i := 8) (oi := { dst := some 48, op := _, type := _, pos := _, after := _, guard := _ }) (v := ?_) rfl (by kernel_rfl) (by kernel_rfl) (by kernel_rfl) (fun _ _ _ h => h) (Or.inl (Or.inl ⟨by rfl, ?_⟩)) hS ?_
        rotate_left
        focus ((intro w hSw; (try dsimp only at hSw); go_simp); (try with_reducible rfl))
        intro w8 hw8
        replace hS := hS.trans hw8
        (try simp only [Act.put, List.setIfInBounds_toArray, List.set_cons_zero, List.set_cons_succ])
        clear hw8
        refine wpAnyK_take Later.refl (fun _ _ _ h k => h.trans k) (fun _ _ h k => h.trans k) (i := 9) (oi := { dst := some 49, op := _, type := _, pos := _, after := _, guard := _ }) (v := zagg (nz : Int) lz tz) rfl (by kernel_rfl) (by kernel_rfl) (by kernel_rfl) (fun _ _ _ h => h) (Or.inr ⟨by rfl, 7, #[.slice (some ⟨gb, 0, none⟩) 20 cl], fun W hW => ⟨?_, HA3.out W hW⟩⟩) hS ?_
        · first | rfl | (go_simp; done)
        intro w9 hw9
        replace hS := hS.trans hw9
        (try simp only [Act.put, List.setIfInBounds_toArray, List.set_cons_zero, List.set_cons_succ])
        clear hw9
        refine wpAnyK_all (rs := [10, 11, 12]) (by kernel_rfl) (by simp) (fun i hi => ?_)
        simp only [List.mem_cons, List.not_mem_nil, or_false] at hi
        rcases hi with rfl | rfl | rfl
        · refine stepK (o := { dst := some 12, op := _, type := _, pos := _, after := _, guard := _ }) rfl (fun K hK => ?_)
          go_simp
          obtain ⟨g10, hg10⟩ : ∃ x, x = w9.heap.size := ⟨_, rfl⟩
          have L10 := Later.new w9 (.cells (zc 0 0 0 ⟨#[]⟩ 0 0 ⟨#[]⟩) 31)
          have Z10 := Blk.new w9 (zc 0 0 0 ⟨#[]⟩ 0 0 ⟨#[]⟩) 31 g10 hg10
          have b10 : wr.heap.size ≤ g10 := by rw [hg10]; exact hS.size
          have P10 : g10 < (w9.alloc (.cells (zc 0 0 0 ⟨#[]⟩ 0 0 ⟨#[]⟩) 31)).heap.size := Z10.lt
          refine hK _ _ (hS.trans L10) (fun w10 h10 => ?_)
          rw [← hg10]
          clear hg10
          replace hS := hS.trans (L10.trans h10)
          replace Z10 := Z10.later h10
          replace P10 := Nat.lt_of_lt_of_le P10 h10.size
          clear hK L10 h10
          (try simp only [Act.put, List.setIfInBounds_toArray, List.set_cons_zero, List.set_cons_succ])
          refine wpAnyK_all (rs := [11, 12]) (by kernel_rfl) (by simp) (fun i hi => ?_)
          simp only [List.mem_cons, List.not_mem_nil, or_false] at hi
          rcases hi with rfl | rfl
          · refine stepK (o := { dst := some 13, op := _, type := _, pos := _, after := _, guard := _ }) rfl (fun K hK => ?_)
            go_simp
            obtain ⟨g11, hg11⟩ : ∃ x, x = w10.heap.size := ⟨_, rfl⟩
            have L11 := Later.new w10 (.cells (zc 0 0 0 ⟨#[]⟩ 0 0 ⟨#[]⟩) 31)
            have Z11 := Blk.new w10 (zc 0 0 0 ⟨#[]⟩ 0 0 ⟨#[]⟩) 31 g11 hg11
            have Z10 := Z10.later L11
            have N1011 : g10 ≠ g11 := by have := P10; omega
            have b11 : wr.heap.size ≤ g11 := by rw [hg11]; exact hS.size
            have P11 : g11 < (w10.alloc (.cells (zc 0 0 0 ⟨#[]⟩ 0 0 ⟨#[]⟩) 31)).heap.size := Z11.lt
            refine hK _ _ (hS.trans L11) (fun w11 h11 => ?_)
            rw [← hg11]
            clear hg11
            replace hS := hS.trans (L11.trans h11)
            replace Z10 := Z10.later h11
            replace Z11 := Z11.later h11
            replace P10 := Nat.lt_of_lt_of_le P10 (Later.size (L11.trans h11))
            replace P11 := Nat.lt_of_lt_of_le P11 h11.size
            clear hK L11 h11
            (try simp only [Act.put, List.setIfInBounds_toArray, List.set_cons_zero, List.set_cons_succ])
            refine wpAnyK_all (rs := [12]) (by kernel_rfl) (by simp) (fun i hi => ?_)
            simp only [List.mem_cons, List.not_mem_nil, or_false] at hi
            rcases hi with rfl
            · refine stepK (o := { dst := some 14, op := _, type := _, pos := _, after := _, guard := _ }) rfl (fun K hK => ?_)
              go_simp
              obtain ⟨g12, hg12⟩ : ∃ x, x = w11.heap.size := ⟨_, rfl⟩
              have L12 := Later.new w11 (.cells (zc 0 0 0 ⟨#[]⟩ 0 0 ⟨#[]⟩) 31)
              have Z12 := Blk.new w11 (zc 0 0 0 ⟨#[]⟩ 0 0 ⟨#[]⟩) 31 g12 hg12
              have Z10 := Z10.later L12
              have Z11 := Z11.later L12
              have N1012 : g10 ≠ g12 := by have := P10; omega
              have N1112 : g11 ≠ g12 := by have := P11; omega
              have b12 : wr.heap.size ≤ g12 := by rw [hg12]; exact hS.size
              have P12 : g12 < (w11.alloc (.cells (zc 0 0 0 ⟨#[]⟩ 0 0 ⟨#[]⟩) 31)).heap.size := Z12.lt
              refine hK _ _ (hS.trans L12) (fun w12 h12 => ?_)
              rw [← hg12]
              clear hg12
              replace hS := hS.trans (L12.trans h12)
              replace Z10 := Z10.later h12
              replace Z11 := Z11.later h12
              replace Z12 := Z12.later h12
              replace P10 := Nat.lt_of_lt_of_le P10 (Later.size (L12.trans h12))
              replace P11 := Nat.lt_of_lt_of_le P11 (Later.size (L12.trans h12))
              replace P12 := Nat.lt_of_lt_of_le P12 h12.size
              clear hK L12 h12
              (try simp only [Act.put, List.setIfInBounds_toArray, List.set_cons_zero, List.set_cons_succ])
              clear P10 P11 P12
              have c100 := Z10.cell 0 _ rfl
              have c101 := Z10.cell 1 _ rfl
              have c102 := Z10.cell 2 _ rfl
              have c103 := Z10.cell 3 _ rfl
              have c104 := Z10.cell 4 _ rfl
              have c105 := Z10.cell 5 _ rfl
              have c106 := Z10.cell 6 _ rfl
              have f100 := Z10.frozen 0
              have f101 := Z10.frozen 1
              have f102 := Z10.frozen 2
              have f103 := Z10.frozen 3
              have f104 := Z10.frozen 4
              have f105 := Z10.frozen 5
              have f106 := Z10.frozen 6
              refine wpAnyK_all (rs := [13]) (by kernel_rfl) (by simp) (fun i hi => ?_)
              simp only [List.mem_cons, List.not_mem_nil, or_false] at hi
              subst hi
              refine stepK (o := { dst := none, op := _, type := _, pos := _, after := _, guard := _ }) rfl (fun K hK => ?_)
              go_simp
              clear c100 f100 c101 f101 c102 f102 c103 f103 c104 f104 c105 f105 c106 f106
              refine hK _ _ (zset_later g10 (na : Int) la ta hS b10) (fun w13 h13 => ?_)
              replace hS := (zset_later g10 (na : Int) la ta hS b10).trans h13
              replace Z10 := (zput (na : Int) la ta Z10).later h13
              replace Z11 := (zset_far g10 (na : Int) la ta Z11 (by first | exact N1110 | exact N1011 | exact Ne.symm N1110 | exact Ne.symm N1011)).later h13
              replace Z12 := (zset_far g10 (na : Int) la ta Z12 (by first | exact N1210 | exact N1012 | exact Ne.symm N1210 | exact Ne.symm N1012)).later h13
              clear hK h13
              (try simp only [Act.put, List.setIfInBounds_toArray, List.set_cons_zero, List.set_cons_succ])
              have c110 := Z11.cell 0 _ rfl
              have c111 := Z11.cell 1 _ rfl
              have c112 := Z11.cell 2 _ rfl
              have c113 := Z11.cell 3 _ rfl
              have c114 := Z11.cell 4 _ rfl
              have c115 := Z11.cell 5 _ rfl
              have c116 := Z11.cell 6 _ rfl
              have f110 := Z11.frozen 0
              have f111 := Z11.frozen 1
              have f112 := Z11.frozen 2
              have f113 := Z11.frozen 3
              have f114 := Z11.frozen 4
              have f115 := Z11.frozen 5
              have f116 := Z11.frozen 6
              refine wpAnyK_all (rs := [14]) (by kernel_rfl) (by simp) (fun i hi => ?_)
              simp only [List.mem_cons, List.not_mem_nil, or_false] at hi
              subst hi
              refine stepK (o := { dst := none, op := _, type := _, pos := _, after := _, guard := _ }) rfl (fun K hK => ?_)
              go_simp
              clear c110 f110 c111 f111 c112 f112 c113 f113 c114 f114 c115 f115 c116 f116
              refine hK _ _ (zset_later g11 (nb : Int) lb tb hS b11) (fun w14 h14 => ?_)
              replace hS := (zset_later g11 (nb : Int) lb tb hS b11).trans h14
              replace Z11 := (zput (nb : Int) lb tb Z11).later h14
              replace Z10 := (zset_far g11 (nb : Int) lb tb Z10 (by first | exact N1011 | exact N1110 | exact Ne.symm N1011 | exact Ne.symm N1110)).later h14
              replace Z12 := (zset_far g11 (nb : Int) lb tb Z12 (by first | exact N1211 | exact N1112 | exact Ne.symm N1211 | exact Ne.symm N1112)).later h14
              clear hK h14
              (try simp only [Act.put, List.setIfInBounds_toArray, List.set_cons_zero, List.set_cons_succ])
              have c120 := Z12.cell 0 _ rfl
              have c121 := Z12.cell 1 _ rfl
              have c122 := Z12.cell 2 _ rfl
              have c123 := Z12.cell 3 _ rfl
              have c124 := Z12.cell 4 _ rfl
              have c125 := Z12.cell 5 _ rfl
              have c126 := Z12.cell 6 _ rfl
              have f120 := Z12.frozen 0
              have f121 := Z12.frozen 1
              have f122 := Z12.frozen 2
              have f123 := Z12.frozen 3
              have f124 := Z12.frozen 4
              have f125 := Z12.frozen 5
              have f126 := Z12.frozen 6
              refine wpAnyK_all (rs := [15]) (by kernel_rfl) (by simp) (fun i hi => ?_)
              simp only [List.mem_cons, List.not_mem_nil, or_false] at hi
              subst hi
              refine stepK (o := { dst := none, op := _, type := _, pos := _, after := _, guard := _ }) rfl (fun K hK => ?_)
              go_simp
              clear c120 f120 c121 f121 c122 f122 c123 f123 c124 f124 c125 f125 c126 f126
              refine hK _ _ (zset_later g12 (nz : Int) lz tz hS b12) (fun w15 h15 => ?_)
              replace hS := (zset_later g12 (nz : Int) lz tz hS b12).trans h15
              replace Z12 := (zput (nz : Int) lz tz Z12).later h15
              replace Z10 := (zset_far g12 (nz : Int) lz tz Z10 (by first | exact N1012 | exact N1210 | exact Ne.symm N1012 | exact Ne.symm N1210)).later h15
              replace Z11 := (zset_far g12 (nz : Int) lz tz Z11 (by first | exact N1112 | exact N1211 | exact Ne.symm N1112 | exact Ne.symm N1211)).later h15
              clear hK h15
              (try simp only [Act.put, List.setIfInBounds_toArray, List.set_cons_zero, List.set_cons_succ])
              refine wpAnyK_done (by kernel_rfl) ?_ _
              skip
              have c100 := Z10.cell 0 _ rfl
              have c101 := Z10.cell 1 _ rfl
              have c102 := Z10.cell 2 _ rfl
              have c103 := Z10.cell 3 _ rfl
              have c104 := Z10.cell 4 _ rfl
              have c105 := Z10.cell 5 _ rfl
              have c106 := Z10.cell 6 _ rfl
              have c110 := Z11.cell 0 _ rfl
              have c111 := Z11.cell 1 _ rfl
              have c112 := Z11.cell 2 _ rfl
              have c113 := Z11.cell 3 _ rfl
              have c114 := Z11.cell 4 _ rfl
              have c115 := Z11.cell 5 _ rfl
              have c116 := Z11.cell 6 _ rfl
              have HZ10 := Lib.hid Z10
              have HZ11 := Lib.hid Z11
              have HZ12 := Lib.hid Z12
              have HS := Lib.hid hS
              have HE := Lib.hid (fun (W : World) => (show Calls Tryd.prog 7 #[.slice (some ⟨W.heap.size, 0, none⟩) 4 4] (W.alloc (.cells (fl [la, ta, lb, tb]).toArray 28)) fun e w' => ∃ ne : Int, e = .returned (zagg ne lz tz) ∧ Later (W.alloc (.cells (fl [la, ta, lb, tb]).toArray 28)) w' from by
                have h := zoneOf_any (some ⟨W.heap.size, 0, none⟩) 4 4 [la, ta, lb, tb] (W.alloc (.cells (fl [la, ta, lb, tb]).toArray 28)) rfl (by simp) ((Blk.new W (fl [la, ta, lb, tb]).toArray 28 W.heap.size rfl).has)
                rw [← HEND.out.1, ← HEND.out.2.1] at h
                exact h.mono fun e w' h => ⟨_, h⟩))
              clear Z10 Z11 Z12 hS
              go_wp2_with fail
              refine (HE.out _).mono ?_
              rintro e wE ⟨ne, rfl, lE⟩
              have LE := Lib.hid ((Later.new _ _).trans lE)
              have LF := LE.out.trans (Later.new wE (.cells (zc ne lz.1 lz.2.1 lz.2.2 tz.1 tz.2.1 tz.2.2) 31))
              have Z15 := Blk.new wE (zc ne lz.1 lz.2.1 lz.2.2 tz.1 tz.2.1 tz.2.2) 31 wE.heap.size rfl
              have d151 := Z15.cell 1 _ rfl
              have d152 := Z15.cell 2 _ rfl
              have d153 := Z15.cell 3 _ rfl
              have d154 := Z15.cell 4 _ rfl
              have d155 := Z15.cell 5 _ rfl
              have d156 := Z15.cell 6 _ rfl
              have d120 := (HZ12.out.later LF).cell 0 _ rfl
              have d121 := (HZ12.out.later LF).cell 1 _ rfl
              have d122 := (HZ12.out.later LF).cell 2 _ rfl
              have d123 := (HZ12.out.later LF).cell 3 _ rfl
              have d124 := (HZ12.out.later LF).cell 4 _ rfl
              have d125 := (HZ12.out.later LF).cell 5 _ rfl
              have d126 := (HZ12.out.later LF).cell 6 _ rfl
              have d100 := (HZ10.out.later LF).cell 0 _ rfl
              have d110 := (HZ11.out.later LF).cell 0 _ rfl
              have zz := (Blk.new wE (zc 0 0 0 ⟨#[]⟩ 0 0 ⟨#[]⟩) 31 wE.heap.size rfl)
              have y150 := zz.frozen 0
              have y151 := zz.frozen 1
              have y152 := zz.frozen 2
              have y153 := zz.frozen 3
              have y154 := zz.frozen 4
              have y155 := zz.frozen 5
              have y156 := zz.frozen 6
              have hnn : (nz : Int) = (na : Int) + (nb : Int) := by have := HEND.out.2.2.1; omega
              clear lE zz Z15 c100 c110 c101 c111 c102 c112 c103 c113 c104 c114 c105 c115 c106 c116
              go_wp2_with fail
              go_ret
              exact ⟨rfl, HLAT.out.trans (HS.out.trans LF)⟩
          · refine stepK (o := { dst := some 14, op := _, type := _, pos := _, after := _, guard := _ }) rfl (fun K hK => ?_)
            go_simp
            obtain ⟨g12, hg12⟩ : ∃ x, x = w10.heap.size := ⟨_, rfl⟩
            have L12 := Later.new w10 (.cells (zc 0 0 0 ⟨#[]⟩ 0 0 ⟨#[]⟩) 31)
            have Z12 := Blk.new w10 (zc 0 0 0 ⟨#[]⟩ 0 0 ⟨#[]⟩) 31 g12 hg12
            have Z10 := Z10.later L12
            have N1012 : g10 ≠ g12 := by have := P10; omega
            have b12 : wr.heap.size ≤ g12 := by rw [hg12]; exact hS.size
            have P12 : g12 < (w10.alloc (.cells (zc 0 0 0 ⟨#[]⟩ 0 0 ⟨#[]⟩) 31)).heap.size := Z12.lt
            refine hK _ _ (hS.trans L12) (fun w12 h12 => ?_)
            rw [← hg12]
            clear hg12
            replace hS := hS.trans (L12.trans h12)
            replace Z10 := Z10.later h12
            replace Z12 := Z12.later h12
            replace P10 := Nat.lt_of_lt_of_le P10 (Later.size (L12.trans h12))
            replace P12 := Nat.lt_of_lt_of_le P12 h12.size
            clear hK L12 h12
            (try simp only [Act.put, List.setIfInBounds_toArray, List.set_cons_zero, List.set_cons_succ])
            refine wpAnyK_all (rs := [11]) (by kernel_rfl) (by simp) (fun i hi => ?_)
            simp only [List.mem_cons, List.not_mem_nil, or_false] at hi
            rcases hi with rfl
            · refine stepK (o := { dst := some 13, op := _, type := _, pos := _, after := _, guard := _ }) rfl (fun K hK => ?_)
              go_simp
              obtain ⟨g11, hg11⟩ : ∃ x, x = w12.heap.size := ⟨_, rfl⟩
              have L11 := Later.new w12 (.cells (zc 0 0 0 ⟨#[]⟩ 0 0 ⟨#[]⟩) 31)
              have Z11 := Blk.new w12 (zc 0 0 0 ⟨#[]⟩ 0 0 ⟨#[]⟩) 31 g11 hg11
              have Z10 := Z10.later L11
              have Z12 := Z12.later L11
              have N1011 : g10 ≠ g11 := by have := P10; omega
              have N1211 : g12 ≠ g11 := by have := P12; omega
              have b11 : wr.heap.size ≤ g11 := by rw [hg11]; exact hS.size
              have P11 : g11 < (w12.alloc (.cells (zc 0 0 0 ⟨#[]⟩ 0 0 ⟨#[]⟩) 31)).heap.size := Z11.lt
              refine hK _ _ (hS.trans L11) (fun w11 h11 => ?_)
              rw [← hg11]
              clear hg11
              replace hS := hS.trans (L11.trans h11)
              replace Z10 := Z10.later h11
              replace Z12 := Z12.later h11
              replace Z11 := Z11.later h11
              replace P10 := Nat.lt_of_lt_of_le P10 (Later.size (L11.trans h11))
              replace P12 := Nat.lt_of_lt_of_le P12 (Later.size (L11.trans h11))
              replace P11 := Nat.lt_of_lt_of_le P11 h11.size
              clear hK L11 h11
              (try simp only [Act.put, List.setIfInBounds_toArray, List.set_cons_zero, List.set_cons_succ])
              clear P10 P11 P12
              have c100 := Z10.cell 0 _ rfl
              have c101 := Z10.cell 1 _ rfl
              have c102 := Z10.cell 2 _ rfl
              have c103 := Z10.cell 3 _ rfl
              have c104 := Z10.cell 4 _ rfl
              have c105 := Z10.cell 5 _ rfl
              have c106 := Z10.cell 6 _ rfl
              have f100 := Z10.frozen 0
              have f101 := Z10.frozen 1
              have f102 := Z10.frozen 2
              have f103 := Z10.frozen 3
              have f104 := Z10.frozen 4
              have f105 := Z10.frozen 5
              have f106 := Z10.frozen 6
              refine wpAnyK_all (rs := [13]) (by kernel_rfl) (by simp) (fun i hi => ?_)
              simp only [List.mem_cons, List.not_mem_nil, or_false] at hi
              subst hi
              refine stepK (o := { dst := none, op := _, type := _, pos := _, after := _, guard := _ }) rfl (fun K hK => ?_)
              go_simp
              clear c100 f100 c101 f101 c102 f102 c103 f103 c104 f104 c105 f105 c106 f106
              refine hK _ _ (zset_later g10 (na : Int) la ta hS b10) (fun w13 h13 => ?_)
              replace hS := (zset_later g10 (na : Int) la ta hS b10).trans h13
              replace Z10 := (zput (na : Int) la ta Z10).later h13
              replace Z11 := (zset_far g10 (na : Int) la ta Z11 (by first | exact N1110 | exact N1011 | exact Ne.symm N1110 | exact Ne.symm N1011)).later h13
              replace Z12 := (zset_far g10 (na : Int) la ta Z12 (by first | exact N1210 | exact N1012 | exact Ne.symm N1210 | exact Ne.symm N1012)).later h13
              clear hK h13
              (try simp only [Act.put, List.setIfInBounds_toArray, List.set_cons_zero, List.set_cons_succ])
              have c110 := Z11.cell 0 _ rfl
              have c111 := Z11.cell 1 _ rfl
              have c112 := Z11.cell 2 _ rfl
              have c113 := Z11.cell 3 _ rfl
              have c114 := Z11.cell 4 _ rfl
              have c115 := Z11.cell 5 _ rfl
              have c116 := Z11.cell 6 _ rfl
              have f110 := Z11.frozen 0
              have f111 := Z11.frozen 1
              have f112 := Z11.frozen 2
              have f113 := Z11.frozen 3
              have f114 := Z11.frozen 4
              have f115 := Z11.frozen 5
              have f116 := Z11.frozen 6
              refine wpAnyK_all (rs := [14]) (by kernel_rfl) (by simp) (fun i hi => ?_)
              simp only [List.mem_cons, List.not_mem_nil, or_false] at hi
              subst hi
              refine stepK (o := { dst := none, op := _, type := _, pos := _, after := _, guard := _ }) rfl (fun K hK => ?_)
              go_simp
              clear c110 f110 c111 f111 c112 f112 c113 f113 c114 f114 c115 f115 c116 f116
              refine hK _ _ (zset_later g11 (nb : Int) lb tb hS b11) (fun w14 h14 => ?_)
              replace hS := (zset_later g11 (nb : Int) lb tb hS b11).trans h14
              replace Z11 := (zput (nb : Int) lb tb Z11).later h14
              replace Z10 := (zset_far g11 (nb : Int) lb tb Z10 (by first | exact N1011 | exact N1110 | exact Ne.symm N1011 | exact Ne.symm N1110)).later h14
              replace Z12 := (zset_far g11 (nb : Int) lb tb Z12 (by first | exact N1211 | exact N1112 | exact Ne.symm N1211 | exact Ne.symm N1112)).later h14
              clear hK h14
              (try simp only [Act.put, List.setIfInBounds_toArray, List.set_cons_zero, List.set_cons_succ])
              have c120 := Z12.cell 0 _ rfl
              have c121 := Z12.cell 1 _ rfl
              have c122 := Z12.cell 2 _ rfl
              have c123 := Z12.cell 3 _ rfl
              have c124 := Z12.cell 4 _ rfl
              have c125 := Z12.cell 5 _ rfl
              have c126 := Z12.cell 6 _ rfl
              have f120 := Z12.frozen 0
              have f121 := Z12.frozen 1
              have f122 := Z12.frozen 2
              have f123 := Z12.frozen 3
              have f124 := Z12.frozen 4
              have f125 := Z12.frozen 5
              have f126 := Z12.frozen 6
              refine wpAnyK_all (rs := [15]) (by kernel_rfl) (by simp) (fun i hi => ?_)
              simp only [List.mem_cons, List.not_mem_nil, or_false] at hi
              subst hi
              refine stepK (o := { dst := none, op := _, type := _, pos := _, after := _, guard := _ }) rfl (fun K hK => ?_)
              go_simp
              clear c120 f120 c121 f121 c122 f122 c123 f123 c124 f124 c125 f125 c126 f126
              refine hK _ _ (zset_later g12 (nz : Int) lz tz hS b12) (fun w15 h15 => ?_)
              replace hS := (zset_later g12 (nz : Int) lz tz hS b12).trans h15
              replace Z12 := (zput (nz : Int) lz tz Z12).later h15
              replace Z10 := (zset_far g12 (nz : Int) lz tz Z10 (by first | exact N1012 | exact N1210 | exact Ne.symm N1012 | exact Ne.symm N1210)).later h15
              replace Z11 := (zset_far g12 (nz : Int) lz tz Z11 (by first | exact N1112 | exact N1211 | exact Ne.symm N1112 | exact Ne.symm N1211)).later h15
              clear hK h15
              (try simp only [Act.put, List.setIfInBounds_toArray, List.set_cons_zero, List.set_cons_succ])
              refine wpAnyK_done (by kernel_rfl) ?_ _
              skip
              have c100 := Z10.cell 0 _ rfl
              have c101 := Z10.cell 1 _ rfl
              have c102 := Z10.cell 2 _ rfl
              have c103 := Z10.cell 3 _ rfl
              have c104 := Z10.cell 4 _ rfl
              have c105 := Z10.cell 5 _ rfl
              have c106 := Z10.cell 6 _ rfl
              have c110 := Z11.cell 0 _ rfl
              have c111 := Z11.cell 1 _ rfl
              have c112 := Z11.cell 2 _ rfl
              have c113 := Z11.cell 3 _ rfl
              have c114 := Z11.cell 4 _ rfl
              have c115 := Z11.cell 5 _ rfl
              have c116 := Z11.cell 6 _ rfl
              have HZ10 := Lib.hid Z10
              have HZ11 := Lib.hid Z11
              have HZ12 := Lib.hid Z12
              have HS := Lib.hid hS
              have HE := Lib.hid (fun (W : World) => (show Calls Tryd.prog 7 #[.slice (some ⟨W.heap.size, 0, none⟩) 4 4] (W.alloc (.cells (fl [la, ta, lb, tb]).toArray 28)) fun e w' => ∃ ne : Int, e = .returned (zagg ne lz tz) ∧ Later (W.alloc (.cells (fl [la, ta, lb, tb]).toArray 28)) w' from by
                have h := zoneOf_any (some ⟨W.heap.size, 0, none⟩) 4 4 [la, ta, lb, tb] (W.alloc (.cells (fl [la, ta, lb, tb]).toArray 28)) rfl (by simp) ((Blk.new W (fl [la, ta, lb, tb]).toArray 28 W.heap.size rfl).has)
                rw [← HEND.out.1, ← HEND.out.2.1] at h
                exact h.mono fun e w' h => ⟨_, h⟩))
              clear Z10 Z11 Z12 hS
              go_wp2_with fail
              refine (HE.out _).mono ?_
              rintro e wE ⟨ne, rfl, lE⟩
              have LE := Lib.hid ((Later.new _ _).trans lE)
              have LF := LE.out.trans (Later.new wE (.cells (zc ne lz.1 lz.2.1 lz.2.2 tz.1 tz.2.1 tz.2.2) 31))
              have Z15 := Blk.new wE (zc ne lz.1 lz.2.1 lz.2.2 tz.1 tz.2.1 tz.2.2) 31 wE.heap.size rfl
              have d151 := Z15.cell 1 _ rfl
              have d152 := Z15.cell 2 _ rfl
              have d153 := Z15.cell 3 _ rfl
              have d154 := Z15.cell 4 _ rfl
              have d155 := Z15.cell 5 _ rfl
              have d156 := Z15.cell 6 _ rfl
              have d120 := (HZ12.out.later LF).cell 0 _ rfl
              have d121 := (HZ12.out.later LF).cell 1 _ rfl
              have d122 := (HZ12.out.later LF).cell 2 _ rfl
              have d123 := (HZ12.out.later LF).cell 3 _ rfl
              have d124 := (HZ12.out.later LF).cell 4 _ rfl
              have d125 := (HZ12.out.later LF).cell 5 _ rfl
              have d126 := (HZ12.out.later LF).cell 6 _ rfl
              have d100 := (HZ10.out.later LF).cell 0 _ rfl
              have d110 := (HZ11.out.later LF).cell 0 _ rfl
              have zz := (Blk.new wE (zc 0 0 0 ⟨#[]⟩ 0 0 ⟨#[]⟩) 31 wE.heap.size rfl)
              have y150 := zz.frozen 0
              have y151 := zz.frozen 1
              have y152 := zz.frozen 2
              have y153 := zz.frozen 3
              have y154 := zz.frozen 4
              have y155 := zz.frozen 5
              have y156 := zz.frozen 6
              have hnn : (nz : Int) = (na : Int) + (nb : Int) := by have := HEND.out.2.2.1; omega
              clear lE zz Z15 c100 c110 c101 c111 c102 c112 c103 c113 c104 c114 c105 c115 c106 c116
              go_wp2_with fail
              go_ret
              exact ⟨rfl, HLAT.out.trans (HS.out.trans LF)⟩
        · refine stepK (o := { dst := some 13, op := _, type := _, pos := _, after := _, guard := _ }) rfl (fun K hK => ?_)
          go_simp
          obtain ⟨g11, hg11⟩ : ∃ x, x = w9.heap.size := ⟨_, rfl⟩
          have L11 := Later.new w9 (.cells (zc 0 0 0 ⟨#[]⟩ 0 0 ⟨#[]⟩) 31)
          have Z11 := Blk.new w9 (zc 0 0 0 ⟨#[]⟩ 0 0 ⟨#[]⟩) 31 g11 hg11
          have b11 : wr.heap.size ≤ g11 := by rw [hg11]; exact hS.size
          have P11 : g11 < (w9.alloc (.cells (zc 0 0 0 ⟨#[]⟩ 0 0 ⟨#[]⟩) 31)).heap.size := Z11.lt
          refine hK _ _ (hS.trans L11) (fun w11 h11 => ?_)
          rw [← hg11]
          clear hg11
          replace hS := hS.trans (L11.trans h11)
          replace Z11 := Z11.later h11
          replace P11 := Nat.lt_of_lt_of_le P11 h11.size
          clear hK L11 h11
          (try simp only [Act.put, List.setIfInBounds_toArray, List.set_cons_zero, List.set_cons_succ])
          refine wpAnyK_all (rs := [10, 12]) (by kernel_rfl) (by simp) (fun i hi => ?_)
          simp only [List.mem_cons, List.not_mem_nil, or_false] at hi
          rcases hi with rfl | rfl
          · refine stepK (o := { dst := some 12, op := _, type := _, pos := _, after := _, guard := _ }) rfl (fun K hK => ?_)
            go_simp
            obtain ⟨g10, hg10⟩ : ∃ x, x = w11.heap.size := ⟨_, rfl⟩
            have L10 := Later.new w11 (.cells (zc 0 0 0 ⟨#[]⟩ 0 0 ⟨#[]⟩) 31)
            have Z10 := Blk.new w11 (zc 0 0 0 ⟨#[]⟩ 0 0 ⟨#[]⟩) 31 g10 hg10
            have Z11 := Z11.later L10
            have N1110 : g11 ≠ g10 := by have := P11; omega
            have b10 : wr.heap.size ≤ g10 := by rw [hg10]; exact hS.size
            have P10 : g10 < (w11.alloc (.cells (zc 0 0 0 ⟨#[]⟩ 0 0 ⟨#[]⟩) 31)).heap.size := Z10.lt
            refine hK _ _ (hS.trans L10) (fun w10 h10 => ?_)
            rw [← hg10]
            clear hg10
            replace hS := hS.trans (L10.trans h10)
            replace Z11 := Z11.later h10
            replace Z10 := Z10.later h10
            replace P11 := Nat.lt_of_lt_of_le P11 (Later.size (L10.trans h10))
            replace P10 := Nat.lt_of_lt_of_le P10 h10.size
            clear hK L10 h10
            (try simp only [Act.put, List.setIfInBounds_toArray, List.set_cons_zero, List.set_cons_succ])
            refine wpAnyK_all (rs := [12]) (by kernel_rfl) (by simp) (fun i hi => ?_)
            simp only [List.mem_cons, List.not_mem_nil, or_false] at hi
            rcases hi with rfl
            · refine stepK (o := { dst := some 14, op := _, type := _, pos := _, after := _, guard := _ }) rfl (fun K hK => ?_)
              go_simp
              obtain ⟨g12, hg12⟩ : ∃ x, x = w10.heap.size := ⟨_, rfl⟩
              have L12 := Later.new w10 (.cells (zc 0 0 0 ⟨#[]⟩ 0 0 ⟨#[]⟩) 31)
              have Z12 := Blk.new w10 (zc 0 0 0 ⟨#[]⟩ 0 0 ⟨#[]⟩) 31 g12 hg12
              have Z11 := Z11.later L12
              have Z10 := Z10.later L12
              have N1112 : g11 ≠ g12 := by have := P11; omega
              have N1012 : g10 ≠ g12 := by have := P10; omega
              have b12 : wr.heap.size ≤ g12 := by rw [hg12]; exact hS.size
              have P12 : g12 < (w10.alloc (.cells (zc 0 0 0 ⟨#[]⟩ 0 0 ⟨#[]⟩) 31)).heap.size := Z12.lt
              refine hK _ _ (hS.trans L12) (fun w12 h12 => ?_)
              rw [← hg12]
              clear hg12
              replace hS := hS.trans (L12.trans h12)
              replace Z11 := Z11.later h12
              replace Z10 := Z10.later h12
              replace Z12 := Z12.later h12
              replace P11 := Nat.lt_of_lt_of_le P11 (Later.size (L12.trans h12))
              replace P10 := Nat.lt_of_lt_of_le P10 (Later.size (L12.trans h12))
              replace P12 := Nat.lt_of_lt_of_le P12 h12.size
              clear hK L12 h12
              (try simp only [Act.put, List.setIfInBounds_toArray, List.set_cons_zero, List.set_cons_succ])
              clear P10 P11 P12
              have c100 := Z10.cell 0 _ rfl
              have c101 := Z10.cell 1 _ rfl
              have c102 := Z10.cell 2 _ rfl
              have c103 := Z10.cell 3 _ rfl
              have c104 := Z10.cell 4 _ rfl
              have c105 := Z10.cell 5 _ rfl
              have c106 := Z10.cell 6 _ rfl
              have f100 := Z10.frozen 0
              have f101 := Z10.frozen 1
              have f102 := Z10.frozen 2
              have f103 := Z10.frozen 3
              have f104 := Z10.frozen 4
              have f105 := Z10.frozen 5
              have f106 := Z10.frozen 6
              refine wpAnyK_all (rs := [13]) (by kernel_rfl) (by simp) (fun i hi => ?_)
              simp only [List.mem_cons, List.not_mem_nil, or_false] at hi
              subst hi
              refine stepK (o := { dst := none, op := _, type := _, pos := _, after := _, guard := _ }) rfl (fun K hK => ?_)
              go_simp
              clear c100 f100 c101 f101 c102 f102 c103 f103 c104 f104 c105 f105 c106 f106
              refine hK _ _ (zset_later g10 (na : Int) la ta hS b10) (fun w13 h13 => ?_)
              replace hS := (zset_later g10 (na : Int) la ta hS b10).trans h13
              replace Z10 := (zput (na : Int) la ta Z10).later h13
              replace Z11 := (zset_far g10 (na : Int) la ta Z11 (by first | exact N1110 | exact N1011 | exact Ne.symm N1110 | exact Ne.symm N1011)).later h13
              replace Z12 := (zset_far g10 (na : Int) la ta Z12 (by first | exact N1210 | exact N1012 | exact Ne.symm N1210 | exact Ne.symm N1012)).later h13
              clear hK h13
              (try simp only [Act.put, List.setIfInBounds_toArray, List.set_cons_zero, List.set_cons_succ])
              have c110 := Z11.cell 0 _ rfl
              have c111 := Z11.cell 1 _ rfl
              have c112 := Z11.cell 2 _ rfl
              have c113 := Z11.cell 3 _ rfl
              have c114 := Z11.cell 4 _ rfl
              have c115 := Z11.cell 5 _ rfl
              have c116 := Z11.cell 6 _ rfl
              have f110 := Z11.frozen 0
              have f111 := Z11.frozen 1
              have f112 := Z11.frozen 2
              have f113 := Z11.frozen 3
              have f114 := Z11.frozen 4
              have f115 := Z11.frozen 5
              have f116 := Z11.frozen 6
              refine wpAnyK_all (rs := [14]) (by kernel_rfl) (by simp) (fun i hi => ?_)
              simp only [List.mem_cons, List.not_mem_nil, or_false] at hi
              subst hi
              refine stepK (o := { dst := none, op := _, type := _, pos := _, after := _, guard := _ }) rfl (fun K hK => ?_)
              go_simp
              clear c110 f110 c111 f111 c112 f112 c113 f113 c114 f114 c115 f115 c116 f116
              refine hK _ _ (zset_later g11 (nb : Int) lb tb hS b11) (fun w14 h14 => ?_)
              replace hS := (zset_later g11 (nb : Int) lb tb hS b11).trans h14
              replace Z11 := (zput (nb : Int) lb tb Z11).later h14
              replace Z10 := (zset_far g11 (nb : Int) lb tb Z10 (by first | exact N1011 | exact N1110 | exact Ne.symm N1011 | exact Ne.symm N1110)).later h14
              replace Z12 := (zset_far g11 (nb : Int) lb tb Z12 (by first | exact N1211 | exact N1112 | exact Ne.symm N1211 | exact Ne.symm N1112)).later h14
              clear hK h14
              (try simp only [Act.put, List.setIfInBounds_toArray, List.set_cons_zero, List.set_cons_succ])
              have c120 := Z12.cell 0 _ rfl
              have c121 := Z12.cell 1 _ rfl
              have c122 := Z12.cell 2 _ rfl
              have c123 := Z12.cell 3 _ rfl
              have c124 := Z12.cell 4 _ rfl
              have c125 := Z12.cell 5 _ rfl
              have c126 := Z12.cell 6 _ rfl
              have f120 := Z12.frozen 0
              have f121 := Z12.frozen 1
              have f122 := Z12.frozen 2
              have f123 := Z12.frozen 3
              have f124 := Z12.frozen 4
              have f125 := Z12.frozen 5
              have f126 := Z12.frozen 6
              refine wpAnyK_all (rs := [15]) (by kernel_rfl) (by simp) (fun i hi => ?_)
              simp only [List.mem_cons, List.not_mem_nil, or_false] at hi
              subst hi
              refine stepK (o := { dst := none, op := _, type := _, pos := _, after := _, guard := _ }) rfl (fun K hK => ?_)
              go_simp
              clear c120 f120 c121 f121 c122 f122 c123 f123 c124 f124 c125 f125 c126 f126
              refine hK _ _ (zset_later g12 (nz : Int) lz tz hS b12) (fun w15 h15 => ?_)
              replace hS := (zset_later g12 (nz : Int) lz tz hS b12).trans h15
              replace Z12 := (zput (nz : Int) lz tz Z12).later h15
              replace Z10 := (zset_far g12 (nz : Int) lz tz Z10 (by first | exact N1012 | exact N1210 | exact Ne.symm N1012 | exact Ne.symm N1210)).later h15
              replace Z11 := (zset_far g12 (nz : Int) lz tz Z11 (by first | exact N1112 | exact N1211 | exact Ne.symm N1112 | exact Ne.symm N1211)).later h15
              clear hK h15
              (try simp only [Act.put, List.setIfInBounds_toArray, List.set_cons_zero, List.set_cons_succ])
              refine wpAnyK_done (by kernel_rfl) ?_ _
              skip
              have c100 := Z10.cell 0 _ rfl
              have c101 := Z10.cell 1 _ rfl
              have c102 := Z10.cell 2 _ rfl
              have c103 := Z10.cell 3 _ rfl
              have c104 := Z10.cell 4 _ rfl
              have c105 := Z10.cell 5 _ rfl
              have c106 := Z10.cell 6 _ rfl
              have c110 := Z11.cell 0 _ rfl
              have c111 := Z11.cell 1 _ rfl
              have c112 := Z11.cell 2 _ rfl
              have c113 := Z11.cell 3 _ rfl
              have c114 := Z11.cell 4 _ rfl
              have c115 := Z11.cell 5 _ rfl
              have c116 := Z11.cell 6 _ rfl
              have HZ10 := Lib.hid Z10
              have HZ11 := Lib.hid Z11
              have HZ12 := Lib.hid Z12
              have HS := Lib.hid hS
              have HE := Lib.hid (fun (W : World) => (show Calls Tryd.prog 7 #[.slice (some ⟨W.heap.size, 0, none⟩) 4 4] (W.alloc (.cells (fl [la, ta, lb, tb]).toArray 28)) fun e w' => ∃ ne : Int, e = .returned (zagg ne lz tz) ∧ Later (W.alloc (.cells (fl [la, ta, lb, tb]).toArray 28)) w' from by
                have h := zoneOf_any (some ⟨W.heap.size, 0, none⟩) 4 4 [la, ta, lb, tb] (W.alloc (.cells (fl [la, ta, lb, tb]).toArray 28)) rfl (by simp) ((Blk.new W (fl [la, ta, lb, tb]).toArray 28 W.heap.size rfl).has)
                rw [← HEND.out.1, ← HEND.out.2.1] at h
                exact h.mono fun e w' h => ⟨_, h⟩))
              clear Z10 Z11 Z12 hS
              go_wp2_with fail
              refine (HE.out _).mono ?_
              rintro e wE ⟨ne, rfl, lE⟩
              have LE := Lib.hid ((Later.new _ _).trans lE)
              have LF := LE.out.trans (Later.new wE (.cells (zc ne lz.1 lz.2.1 lz.2.2 tz.1 tz.2.1 tz.2.2) 31))
              have Z15 := Blk.new wE (zc ne lz.1 lz.2.1 lz.2.2 tz.1 tz.2.1 tz.2.2) 31 wE.heap.size rfl
              have d151 := Z15.cell 1 _ rfl
              have d152 := Z15.cell 2 _ rfl
              have d153 := Z15.cell 3 _ rfl
              have d154 := Z15.cell 4 _ rfl
              have d155 := Z15.cell 5 _ rfl
              have d156 := Z15.cell 6 _ rfl
              have d120 := (HZ12.out.later LF).cell 0 _ rfl
              have d121 := (HZ12.out.later LF).cell 1 _ rfl
              have d122 := (HZ12.out.later LF).cell 2 _ rfl
              have d123 := (HZ12.out.later LF).cell 3 _ rfl
              have d124 := (HZ12.out.later LF).cell 4 _ rfl
              have d125 := (HZ12.out.later LF).cell 5 _ rfl
              have d126 := (HZ12.out.later LF).cell 6 _ rfl
              have d100 := (HZ10.out.later LF).cell 0 _ rfl
              have d110 := (HZ11.out.later LF).cell 0 _ rfl
              have zz := (Blk.new wE (zc 0 0 0 ⟨#[]⟩ 0 0 ⟨#[]⟩) 31 wE.heap.size rfl)
              have y150 := zz.frozen 0
              have y151 := zz.frozen 1
              have y152 := zz.frozen 2
              have y153 := zz.frozen 3
              have y154 := zz.frozen 4
              have y155 := zz.frozen 5
              have y156 := zz.frozen 6
              have hnn : (nz : Int) = (na : Int) + (nb : Int) := by have := HEND.out.2.2.1; omega
              clear lE zz Z15 c100 c110 c101 c111 c102 c112 c103 c113 c104 c114 c105 c115 c106 c116
              go_wp2_with fail
              go_ret
              exact ⟨rfl, HLAT.out.trans (HS.out.trans LF)⟩
          · refine stepK (o := { dst := some 14, op := _, type := _, pos := _, after := _, guard := _ }) rfl (fun K hK => ?_)
            go_simp
            obtain ⟨g12, hg12⟩ : ∃ x, x = w11.heap.size := ⟨_, rfl⟩
            have L12 := Later.new w11 (.cells (zc 0 0 0 ⟨#[]⟩ 0 0 ⟨#[]⟩) 31)
            have Z12 := Blk.new w11 (zc 0 0 0 ⟨#[]⟩ 0 0 ⟨#[]⟩) 31 g12 hg12
            have Z11 := Z11.later L12
            have N1112 : g11 ≠ g12 := by have := P11; omega
            have b12 : wr.heap.size ≤ g12 := by rw [hg12]; exact hS.size
            have P12 : g12 < (w11.alloc (.cells (zc 0 0 0 ⟨#[]⟩ 0 0 ⟨#[]⟩) 31)).heap.size := Z12.lt
            refine hK _ _ (hS.trans L12) (fun w12 h12 => ?_)
            rw [← hg12]
            clear hg12
            replace hS := hS.trans (L12.trans h12)
            replace Z11 := Z11.later h12
            replace Z12 := Z12.later h12
            replace P11 := Nat.lt_of_lt_of_le P11 (Later.size (L12.trans h12))
            replace P12 := Nat.lt_of_lt_of_le P12 h12.size
            clear hK L12 h12
            (try simp only [Act.put, List.setIfInBounds_toArray, List.set_cons_zero, List.set_cons_succ])
            refine wpAnyK_all (rs := [10]) (by kernel_rfl) (by simp) (fun i hi => ?_)
            simp only [List.mem_cons, List.not_mem_nil, or_false] at hi
            rcases hi with rfl
            · refine stepK (o := { dst := some 12, op := _, type := _, pos := _, after := _, guard := _ }) rfl (fun K hK => ?_)
              go_simp
              obtain ⟨g10, hg10⟩ : ∃ x, x = w12.heap.size := ⟨_, rfl⟩
              have L10 := Later.new w12 (.cells (zc 0 0 0 ⟨#[]⟩ 0 0 ⟨#[]⟩) 31)
              have Z10 := Blk.new w12 (zc 0 0 0 ⟨#[]⟩ 0 0 ⟨#[]⟩) 31 g10 hg10
              have Z11 := Z11.later L10
              have Z12 := Z12.later L10
              have N1110 : g11 ≠ g10 := by have := P11; omega
              have N1210 : g12 ≠ g10 := by have := P12; omega
              have b10 : wr.heap.size ≤ g10 := by rw [hg10]; exact hS.size
              have P10 : g10 < (w12.alloc (.cells (zc 0 0 0 ⟨#[]⟩ 0 0 ⟨#[]⟩) 31)).heap.size := Z10.lt
              refine hK _ _ (hS.trans L10) (fun w10 h10 => ?_)
              rw [← hg10]
              clear hg10
              replace hS := hS.trans (L10.trans h10)
              replace Z11 := Z11.later h10
              replace Z12 := Z12.later h10
              replace Z10 := Z10.later h10
              replace P11 := Nat.lt_of_lt_of_le P11 (Later.size (L10.trans h10))
              replace P12 := Nat.lt_of_lt_of_le P12 (Later.size (L10.trans h10))
              replace P10 := Nat.lt_of_lt_of_le P10 h10.size
              clear hK L10 h10
              (try simp only [Act.put, List.setIfInBounds_toArray, List.set_cons_zero, List.set_cons_succ])
              clear P10 P11 P12
              have c100 := Z10.cell 0 _ rfl
              have c101 := Z10.cell 1 _ rfl
              have c102 := Z10.cell 2 _ rfl
              have c103 := Z10.cell 3 _ rfl
              have c104 := Z10.cell 4 _ rfl
              have c105 := Z10.cell 5 _ rfl
              have c106 := Z10.cell 6 _ rfl
              have f100 := Z10.frozen 0
              have f101 := Z10.frozen 1
              have f102 := Z10.frozen 2
              have f103 := Z10.frozen 3
              have f104 := Z10.frozen 4
              have f105 := Z10.frozen 5
              have f106 := Z10.frozen 6
              refine wpAnyK_all (rs := [13]) (by kernel_rfl) (by simp) (fun i hi => ?_)
              simp only [List.mem_cons, List.not_mem_nil, or_false] at hi
              subst hi
              refine stepK (o := { dst := none, op := _, type := _, pos := _, after := _, guard := _ }) rfl (fun K hK => ?_)
              go_simp
              clear c100 f100 c101 f101 c102 f102 c103 f103 c104 f104 c105 f105 c106 f106
              refine hK _ _ (zset_later g10 (na : Int) la ta hS b10) (fun w13 h13 => ?_)
              replace hS := (zset_later g10 (na : Int) la ta hS b10).trans h13
              replace Z10 := (zput (na : Int) la ta Z10).later h13
              replace Z11 := (zset_far g10 (na : Int) la ta Z11 (by first | exact N1110 | exact N1011 | exact Ne.symm N1110 | exact Ne.symm N1011)).later h13
              replace Z12 := (zset_far g10 (na : Int) la ta Z12 (by first | exact N1210 | exact N1012 | exact Ne.symm N1210 | exact Ne.symm N1012)).later h13
              clear hK h13
              (try simp only [Act.put, List.setIfInBounds_toArray, List.set_cons_zero, List.set_cons_succ])
              have c110 := Z11.cell 0 _ rfl
              have c111 := Z11.cell 1 _ rfl
              have c112 := Z11.cell 2 _ rfl
              have c113 := Z11.cell 3 _ rfl
              have c114 := Z11.cell 4 _ rfl
              have c115 := Z11.cell 5 _ rfl
              have c116 := Z11.cell 6 _ rfl
              have f110 := Z11.frozen 0
              have f111 := Z11.frozen 1
              have f112 := Z11.frozen 2
              have f113 := Z11.frozen 3
              have f114 := Z11.frozen 4
              have f115 := Z11.frozen 5
              have f116 := Z11.frozen 6
              refine wpAnyK_all (rs := [14]) (by kernel_rfl) (by simp) (fun i hi => ?_)
              simp only [List.mem_cons, List.not_mem_nil, or_false] at hi
              subst hi
              refine stepK (o := { dst := none, op := _, type := _, pos := _, after := _, guard := _ }) rfl (fun K hK => ?_)
              go_simp
              clear c110 f110 c111 f111 c112 f112 c113 f113 c114 f114 c115 f115 c116 f116
              refine hK _ _ (zset_later g11 (nb : Int) lb tb hS b11) (fun w14 h14 => ?_)
              replace hS := (zset_later g11 (nb : Int) lb tb hS b11).trans h14
              replace Z11 := (zput (nb : Int) lb tb Z11).later h14
              replace Z10 := (zset_far g11 (nb : Int) lb tb Z10 (by first | exact N1011 | exact N1110 | exact Ne.symm N1011 | exact Ne.symm N1110)).later h14
              replace Z12 := (zset_far g11 (nb : Int) lb tb Z12 (by first | exact N1211 | exact N1112 | exact Ne.symm N1211 | exact Ne.symm N1112)).later h14
              clear hK h14
              (try simp only [Act.put, List.setIfInBounds_toArray, List.set_cons_zero, List.set_cons_succ])
              have c120 := Z12.cell 0 _ rfl
              have c121 := Z12.cell 1 _ rfl
              have c122 := Z12.cell 2 _ rfl
              have c123 := Z12.cell 3 _ rfl
              have c124 := Z12.cell 4 _ rfl
              have c125 := Z12.cell 5 _ rfl
              have c126 := Z12.cell 6 _ rfl
              have f120 := Z12.frozen 0
              have f121 := Z12.frozen 1
              have f122 := Z12.frozen 2
              have f123 := Z12.frozen 3
              have f124 := Z12.frozen 4
              have f125 := Z12.frozen 5
              have f126 := Z12.frozen 6
              refine wpAnyK_all (rs := [15]) (by kernel_rfl) (by simp) (fun i hi => ?_)
              simp only [List.mem_cons, List.not_mem_nil, or_false] at hi
              subst hi
              refine stepK (o := { dst := none, op := _, type := _, pos := _, after := _, guard := _ }) rfl (fun K hK => ?_)
              go_simp
              clear c120 f120 c121 f121 c122 f122 c123 f123 c124 f124 c125 f125 c126 f126
              refine hK _ _ (zset_later g12 (nz : Int) lz tz hS b12) (fun w15 h15 => ?_)
              replace hS := (zset_later g12 (nz : Int) lz tz hS b12).trans h15
              replace Z12 := (zput (nz : Int) lz tz Z12).later h15
              replace Z10 := (zset_far g12 (nz : Int) lz tz Z10 (by first | exact N1012 | exact N1210 | exact Ne.symm N1012 | exact Ne.symm N1210)).later h15
              replace Z11 := (zset_far g12 (nz : Int) lz tz Z11 (by first | exact N1112 | exact N1211 | exact Ne.symm N1112 | exact Ne.symm N1211)).later h15
              clear hK h15
              (try simp only [Act.put, List.setIfInBounds_toArray, List.set_cons_zero, List.set_cons_succ])
              refine wpAnyK_done (by kernel_rfl) ?_ _
              skip
              have c100 := Z10.cell 0 _ rfl
              have c101 := Z10.cell 1 _ rfl
              have c102 := Z10.cell 2 _ rfl
              have c103 := Z10.cell 3 _ rfl
              have c104 := Z10.cell 4 _ rfl
              have c105 := Z10.cell 5 _ rfl
              have c106 := Z10.cell 6 _ rfl
              have c110 := Z11.cell 0 _ rfl
              have c111 := Z11.cell 1 _ rfl
              have c112 := Z11.cell 2 _ rfl
              have c113 := Z11.cell 3 _ rfl
              have c114 := Z11.cell 4 _ rfl
              have c115 := Z11.cell 5 _ rfl
              have c116 := Z11.cell 6 _ rfl
              have HZ10 := Lib.hid Z10
              have HZ11 := Lib.hid Z11
              have HZ12 := Lib.hid Z12
              have HS := Lib.hid hS
              have HE := Lib.hid (fun (W : World) => (show Calls Tryd.prog 7 #[.slice (some ⟨W.heap.size, 0, none⟩) 4 4] (W.alloc (.cells (fl [la, ta, lb, tb]).toArray 28)) fun e w' => ∃ ne : Int, e = .returned (zagg ne lz tz) ∧ Later (W.alloc (.cells (fl [la, ta, lb, tb]).toArray 28)) w' from by
                have h := zoneOf_any (some ⟨W.heap.size, 0, none⟩) 4 4 [la, ta, lb, tb] (W.alloc (.cells (fl [la, ta, lb, tb]).toArray 28)) rfl (by simp) ((Blk.new W (fl [la, ta, lb, tb]).toArray 28 W.heap.size rfl).has)
                rw [← HEND.out.1, ← HEND.out.2.1] at h
                exact h.mono fun e w' h => ⟨_, h⟩))
              clear Z10 Z11 Z12 hS
              go_wp2_with fail
              refine (HE.out _).mono ?_
              rintro e wE ⟨ne, rfl, lE⟩
              have LE := Lib.hid ((Later.new _ _).trans lE)
              have LF := LE.out.trans (Later.new wE (.cells (zc ne lz.1 lz.2.1 lz.2.2 tz.1 tz.2.1 tz.2.2) 31))
              have Z15 := Blk.new wE (zc ne lz.1 lz.2.1 lz.2.2 tz.1 tz.2.1 tz.2.2) 31 wE.heap.size rfl
              have d151 := Z15.cell 1 _ rfl
              have d152 := Z15.cell 2 _ rfl
              have d153 := Z15.cell 3 _ rfl
              have d154 := Z15.cell 4 _ rfl
              have d155 := Z15.cell 5 _ rfl
              have d156 := Z15.cell 6 _ rfl
              have d120 := (HZ12.out.later LF).cell 0 _ rfl
              have d121 := (HZ12.out.later LF).cell 1 _ rfl
              have d122 := (HZ12.out.later LF).cell 2 _ rfl
              have d123 := (HZ12.out.later LF).cell 3 _ rfl
              have d124 := (HZ12.out.later LF).cell 4 _ rfl
              have d125 := (HZ12.out.later LF).cell 5 _ rfl
              have d126 := (HZ12.out.later LF).cell 6 _ rfl
              have d100 := (HZ10.out.later LF).cell 0 _ rfl
              have d110 := (HZ11.out.later LF).cell 0 _ rfl
              have zz := (Blk.new wE (zc 0 0 0 ⟨#[]⟩ 0 0 ⟨#[]⟩) 31 wE.heap.size rfl)
              have y150 := zz.frozen 0
              have y151 := zz.frozen 1
              have y152 := zz.frozen 2
              have y153 := zz.frozen 3
              have y154 := zz.frozen 4
              have y155 := zz.frozen 5
              have y156 := zz.frozen 6
              have hnn : (nz : Int) = (na : Int) + (nb : Int) := by have := HEND.out.2.2.1; omega
              clear lE zz Z15 c100 c110 c101 c111 c102 c112 c103 c113 c104 c114 c105 c115 c106 c116
              go_wp2_with fail
              go_ret
              exact ⟨rfl, HLAT.out.trans (HS.out.trans LF)⟩
        · refine stepK (o := { dst := some 14, op := _, type := _, pos := _, after := _, guard := _ }) rfl (fun K hK => ?_)
          go_simp
          obtain ⟨g12, hg12⟩ : ∃ x, x = w9.heap.size := ⟨_, rfl⟩
          have L12 := Later.new w9 (.cells (zc 0 0 0 ⟨#[]⟩ 0 0 ⟨#[]⟩) 31)
          have Z12 := Blk.new w9 (zc 0 0 0 ⟨#[]⟩ 0 0 ⟨#[]⟩) 31 g12 hg12
          have b12 : wr.heap.size ≤ g12 := by rw [hg12]; exact hS.size
          have P12 : g12 < (w9.alloc (.cells (zc 0 0 0 ⟨#[]⟩ 0 0 ⟨#[]⟩) 31)).heap.size := Z12.lt
          refine hK _ _ (hS.trans L12) (fun w12 h12 => ?_)
          rw [← hg12]
          clear hg12
          replace hS := hS.trans (L12.trans h12)
          replace Z12 := Z12.later h12
          replace P12 := Nat.lt_of_lt_of_le P12 h12.size
          clear hK L12 h12
          (try simp only [Act.put, List.setIfInBounds_toArray, List.set_cons_zero, List.set_cons_succ])
          refine wpAnyK_all (rs := [10, 11]) (by kernel_rfl) (by simp) (fun i hi => ?_)
          simp only [List.mem_cons, List.not_mem_nil, or_false] at hi
          rcases hi with rfl | rfl
          · refine stepK (o := { dst := some 12, op := _, type := _, pos := _, after := _, guard := _ }) rfl (fun K hK => ?_)
            go_simp
            obtain ⟨g10, hg10⟩ : ∃ x, x = w12.heap.size := ⟨_, rfl⟩
            have L10 := Later.new w12 (.cells (zc 0 0 0 ⟨#[]⟩ 0 0 ⟨#[]⟩) 31)
            have Z10 := Blk.new w12 (zc 0 0 0 ⟨#[]⟩ 0 0 ⟨#[]⟩) 31 g10 hg10
            have Z12 := Z12.later L10
            have N1210 : g12 ≠ g10 := by have := P12; omega
            have b10 : wr.heap.size ≤ g10 := by rw [hg10]; exact hS.size
            have P10 : g10 < (w12.alloc (.cells (zc 0 0 0 ⟨#[]⟩ 0 0 ⟨#[]⟩) 31)).heap.size := Z10.lt
            refine hK _ _ (hS.trans L10) (fun w10 h10 => ?_)
            rw [← hg10]
            clear hg10
            replace hS := hS.trans (L10.trans h10)
            replace Z12 := Z12.later h10
            replace Z10 := Z10.later h10
            replace P12 := Nat.lt_of_lt_of_le P12 (Later.size (L10.trans h10))
            replace P10 := Nat.lt_of_lt_of_le P10 h10.size
            clear hK L10 h10
            (try simp only [Act.put, List.setIfInBounds_toArray, List.set_cons_zero, List.set_cons_succ])
            refine wpAnyK_all (rs := [11]) (by kernel_rfl) (by simp) (fun i hi => ?_)
            simp only [List.mem_cons, List.not_mem_nil, or_false] at hi
            rcases hi with rfl
            · refine stepK (o := { dst := some 13, op := _, type := _, pos := _, after := _, guard := _ }) rfl (fun K hK => ?_)
              go_simp
              obtain ⟨g11, hg11⟩ : ∃ x, x = w10.heap.size := ⟨_, rfl⟩
              have L11 := Later.new w10 (.cells (zc 0 0 0 ⟨#[]⟩ 0 0 ⟨#[]⟩) 31)
              have Z11 := Blk.new w10 (zc 0 0 0 ⟨#[]⟩ 0 0 ⟨#[]⟩) 31 g11 hg11
              have Z12 := Z12.later L11
              have Z10 := Z10.later L11
              have N1211 : g12 ≠ g11 := by have := P12; omega
              have N1011 : g10 ≠ g11 := by have := P10; omega
              have b11 : wr.heap.size ≤ g11 := by rw [hg11]; exact hS.size
              have P11 : g11 < (w10.alloc (.cells (zc 0 0 0 ⟨#[]⟩ 0 0 ⟨#[]⟩) 31)).heap.size := Z11.lt
              refine hK _ _ (hS.trans L11) (fun w11 h11 => ?_)
              rw [← hg11]
              clear hg11
              replace hS := hS.trans (L11.trans h11)
              replace Z12 := Z12.later h11
              replace Z10 := Z10.later h11
              replace Z11 := Z11.later h11
              replace P12 := Nat.lt_of_lt_of_le P12 (Later.size (L11.trans h11))
              replace P10 := Nat.lt_of_lt_of_le P10 (Later.size (L11.trans h11))
              replace P11 := Nat.lt_of_lt_of_le P11 h11.size
              clear hK L11 h11
              (try simp only [Act.put, List.setIfInBounds_toArray, List.set_cons_zero, List.set_cons_succ])
              clear P10 P11 P12
              have c100 := Z10.cell 0 _ rfl
              have c101 := Z10.cell 1 _ rfl
              have c102 := Z10.cell 2 _ rfl
              have c103 := Z10.cell 3 _ rfl
              have c104 := Z10.cell 4 _ rfl
              have c105 := Z10.cell 5 _ rfl
              have c106 := Z10.cell 6 _ rfl
              have f100 := Z10.frozen 0
              have f101 := Z10.frozen 1
              have f102 := Z10.frozen 2
              have f103 := Z10.frozen 3
              have f104 := Z10.frozen 4
              have f105 := Z10.frozen 5
              have f106 := Z10.frozen 6
              refine wpAnyK_all (rs := [13]) (by kernel_rfl) (by simp) (fun i hi => ?_)
              simp only [List.mem_cons, List.not_mem_nil, or_false] at hi
              subst hi
              refine stepK (o := { dst := none, op := _, type := _, pos := _, after := _, guard := _ }) rfl (fun K hK => ?_)
              go_simp
              clear c100 f100 c101 f101 c102 f102 c103 f103 c104 f104 c105 f105 c106 f106
              refine hK _ _ (zset_later g10 (na : Int) la ta hS b10) (fun w13 h13 => ?_)
              replace hS := (zset_later g10 (na : Int) la ta hS b10).trans h13
              replace Z10 := (zput (na : Int) la ta Z10).later h13
              replace Z11 := (zset_far g10 (na : Int) la ta Z11 (by first | exact N1110 | exact N1011 | exact Ne.symm N1110 | exact Ne.symm N1011)).later h13
              replace Z12 := (zset_far g10 (na : Int) la ta Z12 (by first | exact N1210 | exact N1012 | exact Ne.symm N1210 | exact Ne.symm N1012)).later h13
              clear hK h13
              (try simp only [Act.put, List.setIfInBounds_toArray, List.set_cons_zero, List.set_cons_succ])
              have c110 := Z11.cell 0 _ rfl
              have c111 := Z11.cell 1 _ rfl
              have c112 := Z11.cell 2 _ rfl
              have c113 := Z11.cell 3 _ rfl
              have c114 := Z11.cell 4 _ rfl
              have c115 := Z11.cell 5 _ rfl
              have c116 := Z11.cell 6 _ rfl
              have f110 := Z11.frozen 0
              have f111 := Z11.frozen 1
              have f112 := Z11.frozen 2
              have f113 := Z11.frozen 3
              have f114 := Z11.frozen 4
              have f115 := Z11.frozen 5
              have f116 := Z11.frozen 6
              refine wpAnyK_all (rs := [14]) (by kernel_rfl) (by simp) (fun i hi => ?_)
              simp only [List.mem_cons, List.not_mem_nil, or_false] at hi
              subst hi
              refine stepK (o := { dst := none, op := _, type := _, pos := _, after := _, guard := _ }) rfl (fun K hK => ?_)
              go_simp
              clear c110 f110 c111 f111 c112 f112 c113 f113 c114 f114 c115 f115 c116 f116
              refine hK _ _ (zset_later g11 (nb : Int) lb tb hS b11) (fun w14 h14 => ?_)
              replace hS := (zset_later g11 (nb : Int) lb tb hS b11).trans h14
              replace Z11 := (zput (nb : Int) lb tb Z11).later h14
              replace Z10 := (zset_far g11 (nb : Int) lb tb Z10 (by first | exact N1011 | exact N1110 | exact Ne.symm N1011 | exact Ne.symm N1110)).later h14
              replace Z12 := (zset_far g11 (nb : Int) lb tb Z12 (by first | exact N1211 | exact N1112 | exact Ne.symm N1211 | exact Ne.symm N1112)).later h14
              clear hK h14
              (try simp only [Act.put, List.setIfInBounds_toArray, List.set_cons_zero, List.set_cons_succ])
              have c120 := Z12.cell 0 _ rfl
              have c121 := Z12.cell 1 _ rfl
              have c122 := Z12.cell 2 _ rfl
              have c123 := Z12.cell 3 _ rfl
              have c124 := Z12.cell 4 _ rfl
              have c125 := Z12.cell 5 _ rfl
              have c126 := Z12.cell 6 _ rfl
              have f120 := Z12.frozen 0
              have f121 := Z12.frozen 1
              have f122 := Z12.frozen 2
              have f123 := Z12.frozen 3
              have f124 := Z12.frozen 4
              have f125 := Z12.frozen 5
              have f126 := Z12.frozen 6
              refine wpAnyK_all (rs := [15]) (by kernel_rfl) (by simp) (fun i hi => ?_)
              simp only [List.mem_cons, List.not_mem_nil, or_false] at hi
              subst hi
              refine stepK (o := { dst := none, op := _, type := _, pos := _, after := _, guard := _ }) rfl (fun K hK => ?_)
              go_simp
              clear c120 f120 c121 f121 c122 f122 c123 f123 c124 f124 c125 f125 c126 f126
              refine hK _ _ (zset_later g12 (nz : Int) lz tz hS b12) (fun w15 h15 => ?_)
              replace hS := (zset_later g12 (nz : Int) lz tz hS b12).trans h15
              replace Z12 := (zput (nz : Int) lz tz Z12).later h15
              replace Z10 := (zset_far g12 (nz : Int) lz tz Z10 (by first | exact N1012 | exact N1210 | exact Ne.symm N1012 | exact Ne.symm N1210)).later h15
              replace Z11 := (zset_far g12 (nz : Int) lz tz Z11 (by first | exact N1112 | exact N1211 | exact Ne.symm N1112 | exact Ne.symm N1211)).later h15
              clear hK h15
              (try simp only [Act.put, List.setIfInBounds_toArray, List.set_cons_zero, List.set_cons_succ])
              refine wpAnyK_done (by kernel_rfl) ?_ _
              skip
              have c100 := Z10.cell 0 _ rfl
              have c101 := Z10.cell 1 _ rfl
              have c102 := Z10.cell 2 _ rfl
              have c103 := Z10.cell 3 _ rfl
              have c104 := Z10.cell 4 _ rfl
              have c105 := Z10.cell 5 _ rfl
              have c106 := Z10.cell 6 _ rfl
              have c110 := Z11.cell 0 _ rfl
              have c111 := Z11.cell 1 _ rfl
              have c112 := Z11.cell 2 _ rfl
              have c113 := Z11.cell 3 _ rfl
              have c114 := Z11.cell 4 _ rfl
              have c115 := Z11.cell 5 _ rfl
              have c116 := Z11.cell 6 _ rfl
              have HZ10 := Lib.hid Z10
              have HZ11 := Lib.hid Z11
              have HZ12 := Lib.hid Z12
              have HS := Lib.hid hS
              have HE := Lib.hid (fun (W : World) => (show Calls Tryd.prog 7 #[.slice (some ⟨W.heap.size, 0, none⟩) 4 4] (W.alloc (.cells (fl [la, ta, lb, tb]).toArray 28)) fun e w' => ∃ ne : Int, e = .returned (zagg ne lz tz) ∧ Later (W.alloc (.cells (fl [la, ta, lb, tb]).toArray 28)) w' from by
                have h := zoneOf_any (some ⟨W.heap.size, 0, none⟩) 4 4 [la, ta, lb, tb] (W.alloc (.cells (fl [la, ta, lb, tb]).toArray 28)) rfl (by simp) ((Blk.new W (fl [la, ta, lb, tb]).toArray 28 W.heap.size rfl).has)
                rw [← HEND.out.1, ← HEND.out.2.1] at h
                exact h.mono fun e w' h => ⟨_, h⟩))
              clear Z10 Z11 Z12 hS
              go_wp2_with fail
              refine (HE.out _).mono ?_
              rintro e wE ⟨ne, rfl, lE⟩
              have LE := Lib.hid ((Later.new _ _).trans lE)
              have LF := LE.out.trans (Later.new wE (.cells (zc ne lz.1 lz.2.1 lz.2.2 tz.1 tz.2.1 tz.2.2) 31))
              have Z15 := Blk.new wE (zc ne lz.1 lz.2.1 lz.2.2 tz.1 tz.2.1 tz.2.2) 31 wE.heap.size rfl
              have d151 := Z15.cell 1 _ rfl
              have d152 := Z15.cell 2 _ rfl
              have d153 := Z15.cell 3 _ rfl
              have d154 := Z15.cell 4 _ rfl
              have d155 := Z15.cell 5 _ rfl
              have d156 := Z15.cell 6 _ rfl
              have d120 := (HZ12.out.later LF).cell 0 _ rfl
              have d121 := (HZ12.out.later LF).cell 1 _ rfl
              have d122 := (HZ12.out.later LF).cell 2 _ rfl
              have d123 := (HZ12.out.later LF).cell 3 _ rfl
              have d124 := (HZ12.out.later LF).cell 4 _ rfl
              have d125 := (HZ12.out.later LF).cell 5 _ rfl
              have d126 := (HZ12.out.later LF).cell 6 _ rfl
              have d100 := (HZ10.out.later LF).cell 0 _ rfl
              have d110 := (HZ11.out.later LF).cell 0 _ rfl
              have zz := (Blk.new wE (zc 0 0 0 ⟨#[]⟩ 0 0 ⟨#[]⟩) 31 wE.heap.size rfl)
              have y150 := zz.frozen 0
              have y151 := zz.frozen 1
              have y152 := zz.frozen 2
              have y153 := zz.frozen 3
              have y154 := zz.frozen 4
              have y155 := zz.frozen 5
              have y156 := zz.frozen 6
              have hnn : (nz : Int) = (na : Int) + (nb : Int) := by have := HEND.out.2.2.1; omega
              clear lE zz Z15 c100 c110 c101 c111 c102 c112 c103 c113 c104 c114 c105 c115 c106 c116
              go_wp2_with fail
              go_ret
              exact ⟨rfl, HLAT.out.trans (HS.out.trans LF)⟩
          · refine stepK (o := { dst := some 13, op := _, type := _, pos := _, after := _, guard := _ }) rfl (fun K hK => ?_)
            go_simp
            obtain ⟨g11, hg11⟩ : ∃ x, x = w12.heap.size := ⟨_, rfl⟩
            have L11 := Later.new w12 (.cells (zc 0 0 0 ⟨#[]⟩ 0 0 ⟨#[]⟩) 31)
            have Z11 := Blk.new w12 (zc 0 0 0 ⟨#[]⟩ 0 0 ⟨#[]⟩) 31 g11 hg11
            have Z12 := Z12.later L11
            have N1211 : g12 ≠ g11 := by have := P12; omega
            have b11 : wr.heap.size ≤ g11 := by rw [hg11]; exact hS.size
            have P11 : g11 < (w12.alloc (.cells (zc 0 0 0 ⟨#[]⟩ 0 0 ⟨#[]⟩) 31)).heap.size := Z11.lt
            refine hK _ _ (hS.trans L11) (fun w11 h11 => ?_)
            rw [← hg11]
            clear hg11
            replace hS := hS.trans (L11.trans h11)
            replace Z12 := Z12.later h11
            replace Z11 := Z11.later h11
            replace P12 := Nat.lt_of_lt_of_le P12 (Later.size (L11.trans h11))
            replace P11 := Nat.lt_of_lt_of_le P11 h11.size
            clear hK L11 h11
            (try simp only [Act.put, List.setIfInBounds_toArray, List.set_cons_zero, List.set_cons_succ])
            refine wpAnyK_all (rs := [10]) (by kernel_rfl) (by simp) (fun i hi => ?_)
            simp only [List.mem_cons, List.not_mem_nil, or_false] at hi
            rcases hi with rfl
            · refine stepK (o := { dst := some 12, op := _, type := _, pos := _, after := _, guard := _ }) rfl (fun K hK => ?_)
              go_simp
              obtain ⟨g10, hg10⟩ : ∃ x, x = w11.heap.size := ⟨_, rfl⟩
              have L10 := Later.new w11 (.cells (zc 0 0 0 ⟨#[]⟩ 0 0 ⟨#[]⟩) 31)
              have Z10 := Blk.new w11 (zc 0 0 0 ⟨#[]⟩ 0 0 ⟨#[]⟩) 31 g10 hg10
              have Z12 := Z12.later L10
              have Z11 := Z11.later L10
              have N1210 : g12 ≠ g10 := by have := P12; omega
              have N1110 : g11 ≠ g10 := by have := P11; omega
              have b10 : wr.heap.size ≤ g10 := by rw [hg10]; exact hS.size
              have P10 : g10 < (w11.alloc (.cells (zc 0 0 0 ⟨#[]⟩ 0 0 ⟨#[]⟩) 31)).heap.size := Z10.lt
              refine hK _ _ (hS.trans L10) (fun w10 h10 => ?_)
              rw [← hg10]
              clear hg10
              replace hS := hS.trans (L10.trans h10)
              replace Z12 := Z12.later h10
              replace Z11 := Z11.later h10
              replace Z10 := Z10.later h10
              replace P12 := Nat.lt_of_lt_of_le P12 (Later.size (L10.trans h10))
              replace P11 := Nat.lt_of_lt_of_le P11 (Later.size (L10.trans h10))
              replace P10 := Nat.lt_of_lt_of_le P10 h10.size
              clear hK L10 h10
              (try simp only [Act.put, List.setIfInBounds_toArray, List.set_cons_zero, List.set_cons_succ])
              clear P10 P11 P12
              have c100 := Z10.cell 0 _ rfl
              have c101 := Z10.cell 1 _ rfl
              have c102 := Z10.cell 2 _ rfl
              have c103 := Z10.cell 3 _ rfl
              have c104 := Z10.cell 4 _ rfl
              have c105 := Z10.cell 5 _ rfl
              have c106 := Z10.cell 6 _ rfl
              have f100 := Z10.frozen 0
              have f101 := Z10.frozen 1
              have f102 := Z10.frozen 2
              have f103 := Z10.frozen 3
              have f104 := Z10.frozen 4
              have f105 := Z10.frozen 5
              have f106 := Z10.frozen 6
              refine wpAnyK_all (rs := [13]) (by kernel_rfl) (by simp) (fun i hi => ?_)
              simp only [List.mem_cons, List.not_mem_nil, or_false] at hi
              subst hi
              refine stepK (o := { dst := none, op := _, type := _, pos := _, after := _, guard := _ }) rfl (fun K hK => ?_)
              go_simp
              clear c100 f100 c101 f101 c102 f102 c103 f103 c104 f104 c105 f105 c106 f106
              refine hK _ _ (zset_later g10 (na : Int) la ta hS b10) (fun w13 h13 => ?_)
              replace hS := (zset_later g10 (na : Int) la ta hS b10).trans h13
              replace Z10 := (zput (na : Int) la ta Z10).later h13
              replace Z11 := (zset_far g10 (na : Int) la ta Z11 (by first | exact N1110 | exact N1011 | exact Ne.symm N1110 | exact Ne.symm N1011)).later h13
              replace Z12 := (zset_far g10 (na : Int) la ta Z12 (by first | exact N1210 | exact N1012 | exact Ne.symm N1210 | exact Ne.symm N1012)).later h13
              clear hK h13
              (try simp only [Act.put, List.setIfInBounds_toArray, List.set_cons_zero, List.set_cons_succ])
              have c110 := Z11.cell 0 _ rfl
              have c111 := Z11.cell 1 _ rfl
              have c112 := Z11.cell 2 _ rfl
              have c113 := Z11.cell 3 _ rfl
              have c114 := Z11.cell 4 _ rfl
              have c115 := Z11.cell 5 _ rfl
              have c116 := Z11.cell 6 _ rfl
              have f110 := Z11.frozen 0
              have f111 := Z11.frozen 1
              have f112 := Z11.frozen 2
              have f113 := Z11.frozen 3
              have f114 := Z11.frozen 4
              have f115 := Z11.frozen 5
              have f116 := Z11.frozen 6
              refine wpAnyK_all (rs := [14]) (by kernel_rfl) (by simp) (fun i hi => ?_)
              simp only [List.mem_cons, List.not_mem_nil, or_false] at hi
              subst hi
              refine stepK (o := { dst := none, op := _, type := _, pos := _, after := _, guard := _ }) rfl (fun K hK => ?_)
              go_simp
              clear c110 f110 c111 f111 c112 f112 c113 f113 c114 f114 c115 f115 c116 f116
              refine hK _ _ (zset_later g11 (nb : Int) lb tb hS b11) (fun w14 h14 => ?_)
              replace hS := (zset_later g11 (nb : Int) lb tb hS b11).trans h14
              replace Z11 := (zput (nb : Int) lb tb Z11).later h14
              replace Z10 := (zset_far g11 (nb : Int) lb tb Z10 (by first | exact N1011 | exact N1110 | exact Ne.symm N1011 | exact Ne.symm N1110)).later h14
              replace Z12 := (zset_far g11 (nb : Int) lb tb Z12 (by first | exact N1211 | exact N1112 | exact Ne.symm N1211 | exact Ne.symm N1112)).later h14
              clear hK h14
              (try simp only [Act.put, List.setIfInBounds_toArray, List.set_cons_zero, List.set_cons_succ])
              have c120 := Z12.cell 0 _ rfl
              have c121 := Z12.cell 1 _ rfl
              have c122 := Z12.cell 2 _ rfl
              have c123 := Z12.cell 3 _ rfl
              have c124 := Z12.cell 4 _ rfl
              have c125 := Z12.cell 5 _ rfl
              have c126 := Z12.cell 6 _ rfl
              have f120 := Z12.frozen 0
              have f121 := Z12.frozen 1
              have f122 := Z12.frozen 2
              have f123 := Z12.frozen 3
              have f124 := Z12.frozen 4
              have f125 := Z12.frozen 5
              have f126 := Z12.frozen 6
              refine wpAnyK_all (rs := [15]) (by kernel_rfl) (by simp) (fun i hi => ?_)
              simp only [List.mem_cons, List.not_mem_nil, or_false] at hi
              subst hi
              refine stepK (o := { dst := none, op := _, type := _, pos := _, after := _, guard := _ }) rfl (fun K hK => ?_)
              go_simp
              clear c120 f120 c121 f121 c122 f122 c123 f123 c124 f124 c125 f125 c126 f126
              refine hK _ _ (zset_later g12 (nz : Int) lz tz hS b12) (fun w15 h15 => ?_)
              replace hS := (zset_later g12 (nz : Int) lz tz hS b12).trans h15
              replace Z12 := (zput (nz : Int) lz tz Z12).later h15
              replace Z10 := (zset_far g12 (nz : Int) lz tz Z10 (by first | exact N1012 | exact N1210 | exact Ne.symm N1012 | exact Ne.symm N1210)).later h15
              replace Z11 := (zset_far g12 (nz : Int) lz tz Z11 (by first | exact N1112 | exact N1211 | exact Ne.symm N1112 | exact Ne.symm N1211)).later h15
              clear hK h15
              (try simp only [Act.put, List.setIfInBounds_toArray, List.set_cons_zero, List.set_cons_succ])
              refine wpAnyK_done (by kernel_rfl) ?_ _
              skip
              have c100 := Z10.cell 0 _ rfl
              have c101 := Z10.cell 1 _ rfl
              have c102 := Z10.cell 2 _ rfl
              have c103 := Z10.cell 3 _ rfl
              have c104 := Z10.cell 4 _ rfl
              have c105 := Z10.cell 5 _ rfl
              have c106 := Z10.cell 6 _ rfl
              have c110 := Z11.cell 0 _ rfl
              have c111 := Z11.cell 1 _ rfl
              have c112 := Z11.cell 2 _ rfl
              have c113 := Z11.cell 3 _ rfl
              have c114 := Z11.cell 4 _ rfl
              have c115 := Z11.cell 5 _ rfl
              have c116 := Z11.cell 6 _ rfl
              have HZ10 := Lib.hid Z10
              have HZ11 := Lib.hid Z11
              have HZ12 := Lib.hid Z12
              have HS := Lib.hid hS
              have HE := Lib.hid (fun (W : World) => (show Calls Tryd.prog 7 #[.slice (some ⟨W.heap.size, 0, none⟩) 4 4] (W.alloc (.cells (fl [la, ta, lb, tb]).toArray 28)) fun e w' => ∃ ne : Int, e = .returned (zagg ne lz tz) ∧ Later (W.alloc (.cells (fl [la, ta, lb, tb]).toArray 28)) w' from by
                have h := zoneOf_any (some ⟨W.heap.size, 0, none⟩) 4 4 [la, ta, lb, tb] (W.alloc (.cells (fl [la, ta, lb, tb]).toArray 28)) rfl (by simp) ((Blk.new W (fl [la, ta, lb, tb]).toArray 28 W.heap.size rfl).has)
                rw [← HEND.out.1, ← HEND.out.2.1] at h
                exact h.mono fun e w' h => ⟨_, h⟩))
              clear Z10 Z11 Z12 hS
              go_wp2_with fail
              refine (HE.out _).mono ?_
              rintro e wE ⟨ne, rfl, lE⟩
              have LE := Lib.hid ((Later.new _ _).trans lE)
              have LF := LE.out.trans (Later.new wE (.cells (zc ne lz.1 lz.2.1 lz.2.2 tz.1 tz.2.1 tz.2.2) 31))
              have Z15 := Blk.new wE (zc ne lz.1 lz.2.1 lz.2.2 tz.1 tz.2.1 tz.2.2) 31 wE.heap.size rfl
              have d151 := Z15.cell 1 _ rfl
              have d152 := Z15.cell 2 _ rfl
              have d153 := Z15.cell 3 _ rfl
              have d154 := Z15.cell 4 _ rfl
              have d155 := Z15.cell 5 _ rfl
              have d156 := Z15.cell 6 _ rfl
              have d120 := (HZ12.out.later LF).cell 0 _ rfl
              have d121 := (HZ12.out.later LF).cell 1 _ rfl
              have d122 := (HZ12.out.later LF).cell 2 _ rfl
              have d123 := (HZ12.out.later LF).cell 3 _ rfl
              have d124 := (HZ12.out.later LF).cell 4 _ rfl
              have d125 := (HZ12.out.later LF).cell 5 _ rfl
              have d126 := (HZ12.out.later LF).cell 6 _ rfl
              have d100 := (HZ10.out.later LF).cell 0 _ rfl
              have d110 := (HZ11.out.later LF).cell 0 _ rfl
              have zz := (Blk.new wE (zc 0 0 0 ⟨#[]⟩ 0 0 ⟨#[]⟩) 31 wE.heap.size rfl)
              have y150 := zz.frozen 0
              have y151 := zz.frozen 1
              have y152 := zz.frozen 2
              have y153 := zz.frozen 3
              have y154 := zz.frozen 4
              have y155 := zz.frozen 5
              have y156 := zz.frozen 6
              have hnn : (nz : Int) = (na : Int) + (nb : Int) := by have := HEND.out.2.2.1; omega
              clear lE zz Z15 c100 c110 c101 c111 c102 c112 c103 c113 c104 c114 c105 c115 c106 c116
              go_wp2_with fail
              go_ret
              exact ⟨rfl, HLAT.out.trans (HS.out.trans LF)⟩
end Go.Proofs.YtjphfdjijmpicaaDoor
