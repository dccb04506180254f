/- The walks of the reference's read and Decode by steps. -/
import Derived.Test.YtdhaagooiioglaaDoorRefDec
import Derived.Test.YtdhaagooiioglaaDoorRefDeE
import Derived.BigQuiet
namespace Go.Proofs.YtdhaagooiioglaaDoor
open Go.RowKit
set_option linter.unusedVariables false

theorem refZag_q (u : Nat) (w : World) (m : Nat) (h1 : u < 18446744073709551616) : Calls Tryd.prog 66 #[.int .u64 u] (w.drewN m) fun e w'' => e = .returned (.int .i64 (zag u)) ∧ ∃ m', w'' = w.drewN m' :=
  Calls.quiet_of_same ((refZag_any u (w.drewN m) h1).mono fun e w' h => ⟨h.1, h.2.symm⟩)
/-- Where read's loop stands. -/
def EDR (o : Option (List Val3 × List Nat)) (t : Int) (n : Nat) (w : World) (lv pv bv : Value) (wr : World) : Prop :=
  ∃ (B : Option Addr) (cb : Nat) (rest : List Nat) (L : Option Addr) (cl k : Nat) (done : List Val3) (p : Int), k ≤ n ∧ bv = .slice B rest.length cb ∧ lv = .slice L k cl ∧ pv = .int .i64 p ∧ Has w B (ints .u8 rest) ∧ (∀ x ∈ rest, x < 256) ∧ rest.length ≤ 1000000 ∧ rest.length ≤ cb ∧ cb ≤ 9223372036854775807 ∧ wr.ownsRow w.heap.size 26 3 (.slice L k cl) k (fl done) ∧ done.length = k ∧ o = (readE t (n - k) p rest).map (fun q => (done ++ q.1, q.2)) ∧ Later w wr
theorem EDR.mk {o : Option (List Val3 × List Nat)} {t : Int} {n : Nat} {w wr : World} (B : Option Addr) (m cb : Nat) (rest : List Nat) (L : Option Addr) (cl k : Nat) (done : List Val3) (p : Int) (hk : k ≤ n) (hm : m = rest.length) (hr : Has w B (ints .u8 rest)) (h256 : ∀ x ∈ rest, x < 256) (h1 : rest.length ≤ 1000000) (h2 : rest.length ≤ cb) (h3 : cb ≤ 9223372036854775807) (ho : wr.ownsRow w.heap.size 26 3 (.slice L k cl) k (fl done)) (hd : done.length = k) (hrel : o = (readE t (n - k) p rest).map (fun q => (done ++ q.1, q.2))) (lat : Later w wr) : EDR o t n w (.slice L k cl) (.int .i64 p) (.slice B m cb) wr := by
  subst hm; exact ⟨B, cb, rest, L, cl, k, done, p, hk, rfl, rfl, rfl, hr, h256, h1, h2, h3, ho, hd, hrel, lat⟩

set_option maxRecDepth 100000 in
set_option maxHeartbeats 2000000 in
theorem refReadD_any (t : Int) (n : Nat) (A : Option Addr) (c : Nat) (b : List Nat) (w : World) (hn : n ≤ 1000) (hr : Has w A (ints .u8 b)) (h256 : ∀ x ∈ b, x < 256) (hb : b.length ≤ 1000000) (hbc : b.length ≤ c) (hc : c ≤ 9223372036854775807) :
    Calls Tryd.prog 40 #[.int .i64 5, .int .i64 t, .int .i64 n, .slice A b.length c] w (ReadsL ((readE t n 0 b).map Prod.fst) w) := by
  obtain ⟨o, ho⟩ : ∃ o, o = readE t n 0 b := ⟨_, rfl⟩
  rw [← ho]
  have REL := Lib.hid (show o = (readE t (n - 0) 0 b).map (fun q => ([] ++ q.1, q.2)) by rw [ho]; simp)
  clear ho
  go_enter Tryd.func40, Tryd.ntmps40
  go_wp2_with fail
  go_loopw [10, 21, 3] (fun lv pv bv wr => EDR o t n w lv pv bv wr) (fun lv _ _ _ => n - lenOf lv)
  case atStart => exact EDR.mk A b.length c b none 0 0 [] 0 (Nat.zero_le _) rfl hr h256 hb hbc hc (ownG_nil _ _ _ _) rfl REL.out (Later.refl _)
  case round =>
    obtain ⟨B, cb, rest, L, cl, k, done, p, hk, rfl, rfl, rfl, hrest, hr256, hrl, hrc, hcb, hown, hdl, hrel, lat⟩ := hrel
    clear hr h256 hb hbc hc REL
    by_cases hlt : k < n
    · have HTK := Lib.hid (refTake_num B rest.length cb rest wr rfl hrc (hrest.later lat) hr256 hrl)
      obtain ⟨j, hj⟩ : ∃ j, n - k = j + 1 := ⟨n - k - 1, by omega⟩
      have hj2 : n - (k + 1) = j := by omega
      rw [hj] at hrel
      have HREL := Lib.hid hrel
      have HOWN := Lib.hid hown
      have HREST := Lib.hid hrest
      have HLAT := Lib.hid lat
      have HDL := Lib.hid hdl
      have H256 := Lib.hid hr256
      have HJ := Lib.hid hj2
      have HNCK := Lib.hid hj
      clear hrel hown hrest lat hdl hr256 hj hj2
      go_wp2_with fail
      refine HTK.out.mono ?_
      rintro e w2 ⟨u, m, ok, hT0, rfl, b2⟩
      have l2 : Later wr w2 := Later.of b2
      have HL2 := Lib.hid (HLAT.out.trans l2)
      have OWN2 := Lib.hid (own_later HOWN.out l2)
      clear b2 l2 HTK HOWN HLAT
      rcases takeR_some hT0 with ⟨rfl, hT⟩ | ⟨rfl, hT⟩
      · obtain ⟨hu64, hm1, hm3⟩ := takeNum_is H256.out hT
        have hm2 : m ≤ rest.length := by rw [hm1]; exact hm3.length_le
        obtain ⟨v, hv⟩ : ∃ v, v = w64 (p + zag u) := ⟨_, rfl⟩
        have hvw : IntKind.i64.wrap (p + zag u) = v := hv.symm
        have HO := Lib.hid (show o = (readE t (n - (k + 1)) v (rest.drop m)).map (fun q => ((done ++ [(t, v, ⟨#[]⟩)]) ++ q.1, q.2)) by rw [HREL.out, readE_some hT, readE_step, HJ.out, ← hv])
        have HZQ := Lib.hid (fun m => refZag_q u w2 m hu64)
        have hlen : (rest.drop m).length = rest.length - m := List.length_drop
        have OK := Lib.hid (show (fl (done ++ [(t, v, ⟨#[]⟩)])) = fl done ++ fl [(t, v, ⟨#[]⟩)] from fl_append _ _)
        have DL := Lib.hid (show (done ++ [(t, v, (⟨#[]⟩ : ByteArray))]).length = k + 1 by rw [List.length_append, HDL.out]; rfl)
        have D256 := Lib.hid (fun x (hx : x ∈ rest.drop m) => H256.out x (List.mem_of_mem_drop hx))
        have hpos : 0 < rest.length := by have := putNum_pos u; omega
        clear hT hm1 hm3 hu64 hv hT0 HREL
        rcases B with _ | ⟨bb, off, inn⟩
        · exfalso
          rcases HREST.out with h | ⟨_, _, h, _⟩
          · have : rest.length = 0 := by have := congrArg List.length h; rw [ints_length] at this; exact this
            omega
          · cases h
        · obtain rfl : inn = none := by
            rcases HREST.out with h | ⟨_, _, h, _⟩
            · have : rest.length = 0 := by have := congrArg List.length h; rw [ints_length] at this; exact this
              omega
            · injection h with h; injection h
          have hmc : m ≤ cb := by omega
          by_cases hcm : cb = m
          · subst hcm
            have hr0 : rest.drop cb = [] := List.drop_of_length_le hrc
            have hl0 : rest.length = cb := by omega
            have HR0 := Lib.hid hr0
            clear hr0 hlen
            go_wp2_with fail
            go_quiet ((go_at_call 66; (with_reducible exact HZQ.out _)))
            rename_i nq
            obtain ⟨wz, hwz⟩ : ∃ wz, wz = w2.drewN nq := ⟨_, rfl⟩
            have OWNZ := Lib.hid (own_later OWN2.out (show Later w2 wz from hwz ▸ (Later.refl _).drewN nq))
            have HAS := Lib.hid ((Blk.new wz (fl [(t, v, ⟨#[]⟩)]).toArray 26 wz.heap.size rfl).has)
            have HL5 := Lib.hid ((show Later w wz from hwz ▸ HL2.out.drewN nq).alloc (.cells (fl [(t, v, ⟨#[]⟩)]).toArray 26))
            rw [← hwz]
            clear hwz
            go_wp2_with (at_builtin; refine wpList_append_g _ rfl (.tmp 137) (.tmp 141) 23 rfl w.heap.size 26 (vagg 0 0 ⟨#[]⟩) 3 32 Tryd.underlying23 info_v rfl (by decide) _ k (fl done) rfl (OWNZ.out.alloc _) _ 1 1 (fl [(t, v, ⟨#[]⟩)]) rfl HAS.out (by rfl) (by intro h; cases h) (fl_one _) (by unfold maxLen; omega) (by omega) ?_ ?_; (exact HL5.out.size); intro A2 c2 w6 o2 g2 b2 n2; have HO2 := Lib.hid o2; have HB6 := Lib.hid b2; have HN2 := Lib.hid n2; clear o2 g2 b2 n2)
            have LL := Lib.hid (Later.of (HL5.out.below.trans HB6.out))
            have HF := Lib.hid (fun (B' : Option Addr) (mb cb' : Nat) (hB : mb = 0) (hc' : cb' = 0) => (by
              subst hB hc'
              exact EDR.mk B' 0 0 (rest.drop cb) A2 c2 (k + 1) (done ++ [(t, v, ⟨#[]⟩)]) v hlt (by rw [HR0.out]; rfl) (by rw [HR0.out]; exact Has.nil_) D256.out (by rw [HR0.out]; exact Nat.zero_le _) (by rw [HR0.out]; exact Nat.zero_le _) (by decide) (by rw [OK.out]; exact HO2.out) DL.out HO.out LL.out : EDR o t n w (.slice A2 (k + 1) c2) (.int .i64 v) (.slice B' mb cb') w6))
            go_roundw
            case rel => exact HF.out _ _ _ (by first | rfl | omega) (by first | rfl | omega)
            case measure => simp [lenOf]; omega
          · have HD := Lib.hid (show Has w (some ⟨bb, off + m, none⟩) (ints .u8 (rest.drop m)) from by have h := HREST.out.drop m; rw [show (ints .u8 rest).drop m = ints .u8 (rest.drop m) by simp [ints, List.map_drop]] at h; exact h)
            have HLEN := Lib.hid hlen
            clear hlen
            go_wp2_with fail
            go_quiet ((go_at_call 66; (with_reducible exact HZQ.out _)))
            rename_i nq
            obtain ⟨wz, hwz⟩ : ∃ wz, wz = w2.drewN nq := ⟨_, rfl⟩
            have OWNZ := Lib.hid (own_later OWN2.out (show Later w2 wz from hwz ▸ (Later.refl _).drewN nq))
            have HAS := Lib.hid ((Blk.new wz (fl [(t, v, ⟨#[]⟩)]).toArray 26 wz.heap.size rfl).has)
            have HL5 := Lib.hid ((show Later w wz from hwz ▸ HL2.out.drewN nq).alloc (.cells (fl [(t, v, ⟨#[]⟩)]).toArray 26))
            rw [← hwz]
            clear hwz
            go_wp2_with (at_builtin; refine wpList_append_g _ rfl (.tmp 137) (.tmp 141) 23 rfl w.heap.size 26 (vagg 0 0 ⟨#[]⟩) 3 32 Tryd.underlying23 info_v rfl (by decide) _ k (fl done) rfl (OWNZ.out.alloc _) _ 1 1 (fl [(t, v, ⟨#[]⟩)]) rfl HAS.out (by rfl) (by intro h; cases h) (fl_one _) (by unfold maxLen; omega) (by omega) ?_ ?_; (exact HL5.out.size); intro A2 c2 w6 o2 g2 b2 n2; have HO2 := Lib.hid o2; have HB6 := Lib.hid b2; have HN2 := Lib.hid n2; clear o2 g2 b2 n2)
            have LL := Lib.hid (Later.of (HL5.out.below.trans HB6.out))
            have HF := Lib.hid (fun (mb cb' : Nat) (hB : mb = rest.length - m) (hc' : cb' = cb - m) => (by
              subst hB hc'
              exact EDR.mk _ (rest.length - m) (cb - m) (rest.drop m) A2 c2 (k + 1) (done ++ [(t, v, ⟨#[]⟩)]) v hlt HLEN.out.symm HD.out D256.out (by have := HLEN.out; omega) (by rw [HLEN.out]; omega) (by omega) (by rw [OK.out]; exact HO2.out) DL.out HO.out LL.out : EDR o t n w (.slice A2 (k + 1) c2) (.int .i64 v) (.slice (some ⟨bb, off + m, none⟩) mb cb') w6))
            go_roundw
            case rel => exact HF.out _ _ (by first | rfl | omega) (by first | rfl | omega)
            case measure => simp [lenOf]; omega
      · have HO := Lib.hid (show o.map Prod.fst = none by rw [HREL.out, readE_none hT]; rfl)
        clear hT HREL hT0
        go_wp2_with fail
        go_ret2
        exact ⟨.inl ⟨HO.out, rfl⟩, HL2.out⟩
    · obtain rfl : k = n := by omega
      rw [Nat.sub_self] at hrel
      have HLAT := Lib.hid lat
      have HHAS := Lib.hid (Has.ownG hown)
      have HDL := Lib.hid hdl
      have HO := Lib.hid (show o.map Prod.fst = some done by rw [hrel]; show some (done ++ []) = _; rw [List.append_nil])
      clear hrel lat hown hdl hrest hr256
      go_wp2_with fail
      go_ret2
      refine ⟨.inr ⟨done, L, cl, HO.out, ?_, HHAS.out⟩, HLAT.out⟩
      rw [HDL.out]
      rfl

theorem takeD_bad {t n : Int} {b : List Nat} (h : ¬ ((t = 1 ∨ t = 2) ∧ 0 ≤ n ∧ n ≤ 1000)) : takeD t n b = none := by unfold takeD; rw [if_neg h]
theorem refDecD_any (t n : Int) (A : Option Addr) (c : Nat) (b : List Nat) (w : World) (hr : Has w A (ints .u8 b)) (h256 : ∀ x ∈ b, x < 256) (hb : b.length ≤ 1000000) (hbc : b.length ≤ c) (hc : c ≤ 9223372036854775807) :
    Calls Tryd.prog 19 #[.int .i64 5, .int .i64 t, .int .i64 n, .slice A b.length c] w (PutsV (takeD t n b) w) := by
  by_cases h : (1 ≤ t ∧ t ≤ 4) ∧ 0 ≤ n ∧ n ≤ 1000
  · obtain ⟨m, rfl⟩ : ∃ m : Nat, n = (m : Int) := ⟨n.toNat, by omega⟩
    refine refDec_gen 5 t m A c b w (putD t) _ _ h.1 (by omega) hr h256 hb (fun w' l => refReadD_any t m A c b w' (by omega) (hr.later l) h256 hb hbc hc) (fun L cl l w' h1 h2 h3 => refEncD_any t L cl l w' h1 h2 h3) ?_ ?_ ?_ ?_
    · intro l hl
      cases hq : readE t m 0 b with
      | none => rw [hq] at hl; cases hl
      | some q =>
        obtain ⟨l', r⟩ := q
        rw [hq] at hl; cases hl
        obtain ⟨_, h2, h3, _⟩ := readE_is m 0 b h256 _ r hq
        exact ⟨by show l'.length ≤ 1000; omega, h2⟩
    · intro l pb hl hp
      refine ⟨putD_lt hp, ?_⟩
      have := putD_le hp
      cases hq : readE t m 0 b with
      | none => rw [hq] at hl; cases hl
      | some q =>
        obtain ⟨l', r⟩ := q
        rw [hq] at hl; cases hl
        obtain ⟨_, _, h3, _⟩ := readE_is m 0 b h256 _ r hq
        have hp2 : pb.length ≤ l'.length * 10 := this
        omega
    · intro l hl hln hp
      cases hq : readE t m 0 b with
      | none => rw [hq] at hl; cases hl
      | some q =>
        obtain ⟨l', r⟩ := q
        rw [hq] at hl; cases hl
        obtain ⟨h1, h2, h3, h4⟩ := readE_is m 0 b h256 _ r hq
        have := takeD_put h2 (by omega) hp
        rw [hln] at this
        exact this
    · intro hno
      cases hT : takeD t (m : Int) b with
      | none => rfl
      | some l =>
        obtain ⟨h1, h2, h3, _⟩ := takeD_is h256 hT
        unfold takeD at hT
        split at hT
        · rename_i hc
          have e := ((readD_readE m 0 b l).1 hT).1
          exact absurd h1 (hno l (by rw [e]; rfl) (by omega))
        · cases hT
  · rw [takeD_bad (by omega)]; exact refDec_no 5 t n A _ c w h
end Go.Proofs.YtdhaagooiioglaaDoor
