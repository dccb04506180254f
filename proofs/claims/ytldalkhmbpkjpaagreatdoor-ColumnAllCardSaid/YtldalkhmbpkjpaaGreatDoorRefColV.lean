/- TakeColumn: the case oneB, the bad ones. -/
import Derived.Test.YtldalkhmbpkjpaaGreatDoorRefColU
namespace Go.Proofs.YtldalkhmbpkjpaaGreatDoor
open Go.RowKit
set_option linter.unusedVariables false

set_option maxRecDepth 100000 in
set_option maxHeartbeats 1500000 in
theorem refTakeColumn_oneB (t : Int) (n : Nat) (bb off e : Nat) (r : List Nat) (w : World) (hn : n ≤ 1000) (hk8 : 0 = (n + 7) / 8) (hrl : r.length = 0) (hr : Has w (some ⟨bb, off, none⟩) (ints .u8 (e :: 1 :: r))) (h256 : ∀ x ∈ e :: 1 :: r, x < 256) :
    Calls Tryz.prog 12 #[.int .i64 t, .int .i64 n, .slice (some ⟨bb, off, none⟩) 2 2] w (TakesCol (takeC10 t n (e :: 1 :: r)) w) := by
  have he := h256 e (List.mem_cons_self ..)
  have H256 := Lib.hid h256
  have HR := Lib.hid hr
  obtain ⟨c0, c1⟩ : w.cell? ⟨bb, off, none⟩ = some (.int .u8 (e : Int)) ∧ w.cell? ⟨bb, off + 1, none⟩ = some (.int .u8 (1 : Int)) := by
    rcases hr with h | ⟨b', o', h, _, hc⟩
    · cases h
    · injection h with h
      injection h with h1 h2
      subst h1 h2
      exact ⟨hc 0 _ rfl, hc 1 _ rfl⟩
  have c1A : (w.alloc (.cells (madeCells #[.bool false] n) 4)).cell? ⟨bb, off + 1, none⟩ = some (.int .u8 (1 : Int)) := (Later.new w _).cell c1
  have HMB := Lib.hid (show 2 = (e :: 1 :: r).length by rw [List.length_cons, List.length_cons, hrl])
  have hew : IntKind.i64.wrap (e : Int) = (e : Int) := IntWalk.i64_in _ ⟨by omega, by omega⟩
  have hn0 : decide ((n : Int) < 0) = false := decide_eq_false (by omega)
  have hn1 : decide ((1000 : Int) < (n : Int)) = false := decide_eq_false (by omega)
  have hmk := fun W => run_make_row' (P := Tryz.prog) 46 4 (.bool false) 1 Tryz.underlying46 info_bool rfl .i64 .i64 n (by omega) (by omega) W
  have hki : ((n : Int) + 7) / 8 = 0 := by omega
  have H256R := Lib.hid (show ∀ y ∈ r, y < 256 from fun y hy => h256 y (List.mem_cons_of_mem _ (List.mem_cons_of_mem _ hy)))
  have HN9 := Lib.hid hn
  have HLA := Lib.hid (Later.new w (.cells (madeCells #[.bool false] n) 4))
  have HTN := Lib.hid (fun (w' : World) (lz : Later w w') => refTakeNulls_any (some ⟨bb, off, none⟩) 0 0 (r.take 0) (n : Int) w' (by rw [List.length_take]; omega) (by rw [List.length_take]; omega) (by rw [List.take_zero]; exact Has.nil_) (fun y hy => by rw [List.take_zero] at hy; cases hy))
  have HHR := Lib.hid (show Has w (some ⟨bb, off + 2, none⟩) (ints .u8 r) from hr.behind 2)
  have HK8 := Lib.hid hk8
  have HLE := Lib.hid hrl
  have HSE := Lib.hid (show ∀ x, takeN (r.take 0) n = some x → x.length = n ∧ (∀ q : List Nat, q = r.drop 0 → takeC10 t n (e :: 1 :: r) = (match decQ e t ((x.count false : Nat) : Int) q with
      | none => none
      | some s => if putC (e : Int) t (mixL x s) = some (e :: 1 :: r) then some (mixL x s, (e : Int)) else none)) from fun x hx => by
    have hxl := (takeN_pack (fun y hy => H256R.out y (List.mem_of_mem_take hy)) hx).1
    exact ⟨hxl, fun q hq => takeC10_eq (t := t) hn h256 hxl (by rw [hq]; exact fun y hy => H256R.out y (List.mem_of_mem_drop hy)) (.inr ⟨rfl, by rw [← hk8]; exact hx, by rw [← hk8]; exact hq⟩)⟩)
  have HSN := Lib.hid (show takeN (r.take 0) n = none → takeC10 t n (e :: 1 :: r) = none from fun hno => by
    cases hT : takeC10 t n (e :: 1 :: r) with
    | none => rfl
    | some p =>
      obtain ⟨e', f', r', x', c', s', hb', _, _, hxl, hrel, _⟩ := takeC10_inv h256 hT
      injection hb' with h1 hb'
      injection hb' with h2 h3
      subst h1 h2 h3
      rw [show ((n : Nat) : Int).toNat = n from rfl, ← hk8] at hrel
      rcases hrel with ⟨h0, _⟩ | ⟨_, htk, _⟩
      · omega
      · rw [hno] at htk; cases htk)
  obtain ⟨bl, hbl⟩ : ∃ bl, bl = e :: 1 :: r := ⟨_, rfl⟩
  rw [← hbl] at HSE HSN HR HMB H256 ⊢
  clear hr h256 he hbl hk8 hrl
  go_enter Tryz.func12, Tryz.ntmps12
  go_wp2_with fail
  refine (HTN.out _ HLA.out).mono ?_
  clear hmk HTN
  intro e5 w5 h
  cases hT : takeN (r.take 0) n with
  | none =>
    obtain ⟨rfl, l5⟩ := h.no hT
    have HO := Lib.hid (HSN.out hT)
    have L5 := Lib.hid (HLA.out.trans l5)
    clear h hT l5 c0 c1 c1A
    go_wp2_with fail
    go_ret3
    exact ⟨.inl ⟨HO.out, rfl⟩, L5.out⟩
  | some x =>
    obtain ⟨gx, rfl, _, bx, l5⟩ := h.yes hT
    obtain ⟨hxl, heq⟩ := HSE.out x hT
    obtain ⟨q, hq⟩ : ∃ q, q = r.drop 0 := ⟨_, rfl⟩
    have HEQ := Lib.hid (heq q hq)
    have HXL := Lib.hid hxl
    have HXH5 := Lib.hid bx.hasB
    have L5 := Lib.hid (HLA.out.trans l5)
    have HQ := Lib.hid hq
    have HQ256 := Lib.hid (show ∀ y ∈ q, y < 256 by rw [hq]; exact fun y hy => H256R.out y (List.mem_of_mem_drop hy))
    have HQL := Lib.hid (show 0 = q.length by rw [hq, List.length_drop]; have := HLE.out; omega)
    have HQM := Lib.hid (show q.length ≤ 1000000 by rw [hq, List.length_drop]; have := HLE.out; omega)
    have HQC := Lib.hid (show 0 ≤ 0 from Nat.le_refl _)
    have HQX := Lib.hid (show 0 ≤ 9223372036854775807 by decide)
    rw [hxl]
    clear h hT bx l5 heq hxl hq HSE HSN c0 c1 c1A
    go_wp2_with fail
    go_quiet (fail)
    obtain ⟨wT, hwT⟩ : ∃ wT, wT = w5.drewN nq := ⟨_, rfl⟩
    have lT : Later w5 wT := hwT ▸ (Later.refl w5).drewN nq
    have HLT := Lib.hid (L5.out.trans lT)
    have HXH := Lib.hid (HXH5.out.later lT)
    have HQH := Lib.hid (show Has wT (some ⟨bb, off, none⟩) (ints .u8 q) by
      have h0 : q = [] := List.eq_nil_of_length_eq_zero (by have := HQL.out; omega)
      rw [h0]; exact Has.nil_)
    rw [← hwT]
    clear hwT lT HXH5 HHR L5
    go_wp2_with fail
    go_loop [14, 15] (fun mv iv => ∃ j u : Nat, j ≤ n ∧ iv = .int .i64 j ∧ mv = .int .i64 u ∧ u = (x.take j).count false) (fun _ i => n - (intOf i).toNat)
    case atStart => exact ⟨0, 0, Nat.zero_le _, rfl, rfl, rfl⟩
    case round =>
      obtain ⟨j, u, hj, rfl, rfl, hu⟩ := hrel
      by_cases hlt : j < n
      · have hjx : j < x.length := by have := HXL.out; omega
        obtain ⟨xb, xo, hxa, hcell⟩ := HXH.out.boolAt j hjx
        injection hxa with hxa
        injection hxa with hx1 hx2
        subst hx1 hx2
        rw [Nat.zero_add] at hcell
        have HNX := Lib.hid (show (x.take (j + 1)).count false = (x.take j).count false + (if x[j] = false then 1 else 0) by
          rw [List.take_succ_eq_append_getElem hjx, List.count_append]
          cases x[j] <;> rfl)
        obtain ⟨y, hy⟩ : ∃ y, y = x[j] := ⟨_, rfl⟩
        rw [← hy] at hcell HNX
        have hj9 : j < 1000 := by have := HN9.out; omega
        have hu9 : u ≤ 1000 := by rw [hu]; exact Nat.le_trans List.count_le_length (by rw [List.length_take]; omega)
        have HU := Lib.hid hu
        clear hy hu hjx
        cases y
        · go_wp2_with fail
          go_round
          case rel => exact ⟨j + 1, u + 1, hlt, by go_num, by go_num, by rw [HNX.out, ← HU.out]; rfl⟩
          case measure => simp [intOf]; omega
        · go_wp2_with fail
          go_round
          case rel => exact ⟨j + 1, u, hlt, by go_num, rfl, by rw [HNX.out, ← HU.out]; rfl⟩
          case measure => simp [intOf]; omega
      · obtain rfl : j = n := by omega
        have hux : u = x.count false := by rw [hu, List.take_of_length_le (by have := HXL.out; omega)]
        have HDEC := Lib.hid (refDec_any (e : Int) t ((u : Nat) : Int) _ _ _ q _ HQL.out HQH.out HQ256.out HQM.out HQC.out HQX.out)
        have HUX := Lib.hid hux
        rw [← hux] at HEQ
        clear hu hux
        go_wp2_with fail
        refine HDEC.out.mono ?_
        clear HDEC
        intro e3 w3 h
        rcases takesV_copy h with ⟨hno, rfl, l3⟩ | ⟨s, S, cs, hyes, rfl, hsh, hsc, hscm, l3⟩
        · have HO := Lib.hid (HEQ.out.trans (by rw [hno]))
          have L3 := Lib.hid (HLT.out.trans l3)
          clear hno h l3
          go_wp2_with fail
          go_ret3
          exact ⟨.inl ⟨HO.out, rfl⟩, L3.out⟩
        · obtain ⟨hs64, hslen⟩ := decQ_is HQ256.out hyes
          have HO := Lib.hid (HEQ.out.trans (by rw [hyes]))
          have L3 := Lib.hid (HLT.out.trans l3)
          have HX3 := Lib.hid (HXH.out.later l3)
          have H64 := Lib.hid (mixL_64 x s hs64)
          have HSTART := Lib.hid (show TcInv x s w3.heap.size j w3 (.slice S s.length cs) (.slice none 0 0) (.int .i64 0) w3 from TcInv.mk S none s.length cs 0 0 0 [] s 0 rfl rfl (Nat.zero_le _) rfl hsc hscm (by rw [List.drop_zero]; have := HUX.out; omega) rfl rfl hsh (ownG_nil _ _ _ _) (Later.refl _))
          clear h hyes hs64 hslen hsh hsc hscm l3 HQH HXH HEQ
          go_wp2_with fail
          go_loopw [16, 18, 19] (fun sv lv iv wr => TcInv x s w3.heap.size j w3 sv lv iv wr) (fun _ _ iv _ => j - (intOf iv).toNat)
          case atStart => exact HSTART.out
          case round =>
            clear HSTART
            obtain ⟨S', L, ns, cs', cl, k, done, sr, rfl, rfl, rfl, hk, hns, hcc, hcm, hcnt, hdl, hmix, hhas, hown, lat⟩ := hrel
            have HNS := Lib.hid hns
            have HCNT := Lib.hid hcnt
            have HDL := Lib.hid hdl
            have HMIX := Lib.hid hmix
            have HHAS := Lib.hid hhas
            have HOWN := Lib.hid hown
            have HLAT := Lib.hid lat
            clear hns hcnt hdl hmix hhas hown
            by_cases hlt2 : k < j
            · exfalso
              omega
            · obtain rfl : k = j := by omega
              have hmx : done = mixL x s := by
                have h := HMIX.out
                rw [List.drop_eq_nil_of_le (by have := HXL.out; omega), show mixL [] sr = [] from rfl, List.append_nil] at h
                exact h
              have hown := HOWN.out
              rw [hmx] at hown
              have HPC := Lib.hid (refPutColumn_any (e : Int) t L k cl (mixL x s) wr (by rw [mixL_len]; exact HXL.out.symm) (by rw [mixL_len, HXL.out]; exact HN9.out) (Has.ownG hown) H64.out)
              have HLH := Lib.hid (Has.ownG hown)
              have LY := Lib.hid (L3.out.trans lat)
              have HML := Lib.hid (show k = (mixL x s).length by rw [mixL_len]; exact HXL.out.symm)
              clear hmx hown lat
              go_wp2_with fail
              refine HPC.out.mono ?_
              clear HPC
              intro e4 w4 h
              rcases h with ⟨⟨hp, rfl⟩ | ⟨pb, C, cc, hp, rfl, ph, _, _, _⟩, l4⟩
              · have HO2 := Lib.hid (HO.out.trans (if_neg (by rw [hp]; simp)))
                have L4 := Lib.hid (LY.out.trans l4)
                clear hp l4
                go_wp2_with fail
                go_ret3
                exact ⟨.inl ⟨HO2.out, rfl⟩, L4.out⟩
              · have L4 := Lib.hid (LY.out.trans l4)
                have cv1 := conv_str C pb.length cc pb rfl w4 _ ph.rd
                have cv2 := conv_str (some ⟨bb, off, none⟩) 2 2 (bl) HMB.out w4 _ ((HR.out.later L4.out).rd)
                have HPL := Lib.hid (putC_lt (by rw [mixL_len, HXL.out]; exact HN9.out) H64.out hp)
                by_cases heq : pb = bl
                · have HO2 := Lib.hid (HO.out.trans (if_pos (by rw [hp, heq])))
                  have HLH4 := Lib.hid (HLH.out.later l4)
                  subst heq
                  clear hp l4 ph
                  go_wp2_with fail
                  go_ret3
                  refine ⟨.inr ⟨mixL x s, e, L, cl, HO2.out, ?_, HLH4.out⟩, L4.out⟩
                  rw [← HML.out]
                  rfl
                · have HO2 := Lib.hid (HO.out.trans (if_neg (by rw [hp]; intro h; injection h with h; exact heq h)))
                  have hbn := bstr_ne HPL.out H256.out heq
                  clear hp l4 ph heq
                  go_wp2_with fail
                  go_ret3
                  exact ⟨.inl ⟨HO2.out, rfl⟩, L4.out⟩


set_option maxRecDepth 100000 in
theorem refTakeColumn_n (t n : Int) (A : Option Addr) (m c : Nat) (b : List Nat) (w : World) (h : n < 0 ∨ 1000 < n) :
    Calls Tryz.prog 12 #[.int .i64 t, .int .i64 n, .slice A m c] w (TakesCol (takeC10 t n b) w) := by
  have HNO := Lib.hid (show takeC10 t n b = none by unfold takeC10; rw [if_neg (by omega)])
  rcases h with h | h
  · have d0 : decide (n < 0) = true := decide_eq_true h
    go_enter Tryz.func12, Tryz.ntmps12
    go_wp2_with fail
    go_ret3
    exact ⟨.inl ⟨HNO.out, rfl⟩, Later.refl _⟩
  · have d0 : decide (n < 0) = false := decide_eq_false (by omega)
    have d1 : decide (1000 < n) = true := decide_eq_true h
    go_enter Tryz.func12, Tryz.ntmps12
    go_wp2_with fail
    go_ret3
    exact ⟨.inl ⟨HNO.out, rfl⟩, Later.refl _⟩
set_option maxRecDepth 100000 in
theorem refTakeColumn_short (t n : Int) (A : Option Addr) (m c : Nat) (b : List Nat) (w : World) (hm : m = b.length) (hn : 0 ≤ n ∧ n ≤ 1000) (h256 : ∀ x ∈ b, x < 256) (h : b.length < 2) :
    Calls Tryz.prog 12 #[.int .i64 t, .int .i64 n, .slice A m c] w (TakesCol (takeC10 t n b) w) := by
  have HNO := Lib.hid (show takeC10 t n b = none by
    cases hT : takeC10 t n b with
    | none => rfl
    | some p =>
      obtain ⟨e, f, r, _, _, _, hb, _⟩ := takeC10_inv h256 hT
      rw [hb, List.length_cons, List.length_cons] at h
      omega)
  have d0 : decide (n < 0) = false := decide_eq_false (by omega)
  have d1 : decide (1000 < n) = false := decide_eq_false (by omega)
  have d2 : decide ((m : Int) < 2) = true := decide_eq_true (by omega)
  clear hm hn h256 h
  go_enter Tryz.func12, Tryz.ntmps12
  go_wp2_with fail
  go_ret3
  exact ⟨.inl ⟨HNO.out, rfl⟩, Later.refl _⟩
set_option maxRecDepth 100000 in
theorem refTakeColumn_flag (t n : Int) (bb off m c e f : Nat) (r : List Nat) (w : World) (hm : 2 ≤ m) (hn : 0 ≤ n ∧ n ≤ 1000) (hr : Has w (some ⟨bb, off, none⟩) (ints .u8 (e :: f :: r))) (h256 : ∀ x ∈ e :: f :: r, x < 256) (hf : 1 < f) :
    Calls Tryz.prog 12 #[.int .i64 t, .int .i64 n, .slice (some ⟨bb, off, none⟩) m c] w (TakesCol (takeC10 t n (e :: f :: r)) w) := by
  have HNO := Lib.hid (show takeC10 t n (e :: f :: r) = none by
    cases hT : takeC10 t n (e :: f :: r) with
    | none => rfl
    | some p =>
      obtain ⟨e', f', r', _, _, _, hb, _, _, _, hrel, _⟩ := takeC10_inv h256 hT
      injection hb with h1 hb
      injection hb with h2 h3
      omega)
  have c1 : w.cell? ⟨bb, off + 1, none⟩ = some (.int .u8 (f : Int)) := by
    rcases hr with h | ⟨b', o', h, _, hc⟩
    · cases h
    · injection h with h
      injection h with h1 h2
      subst h1 h2
      exact hc 1 _ rfl
  have d0 : decide (n < 0) = false := decide_eq_false (by omega)
  have d1 : decide (1000 < n) = false := decide_eq_false (by omega)
  have d2 : decide ((m : Int) < 2) = false := decide_eq_false (by omega)
  have d3 : decide ((1 : Int) < (f : Int)) = true := decide_eq_true (by omega)
  have i1 : (1 : Int) < (m : Int) := by omega
  clear hm hn h256 hf hr
  go_enter Tryz.func12, Tryz.ntmps12
  go_wp2_with fail
  go_ret3
  exact ⟨.inl ⟨HNO.out, rfl⟩, Later.refl _⟩

theorem refTakeColumn_any (t n : Int) (A : Option Addr) (m c : Nat) (b : List Nat) (w : World) (hm : m = b.length) (hr : Has w A (ints .u8 b)) (h256 : ∀ x ∈ b, x < 256) (hb : b.length ≤ 1000000) (hbc : m ≤ c) (hc : c ≤ 9223372036854775807) :
    Calls Tryz.prog 12 #[.int .i64 t, .int .i64 n, .slice A m c] w (TakesCol (takeC10 t n b) w) := by
  by_cases hn : 0 ≤ n ∧ n ≤ 1000
  · by_cases h2 : b.length < 2
    · exact refTakeColumn_short t n A m c b w hm hn h256 h2
    · match b, hm, hr, h256, hb, h2 with
      | [], hm, hr, h256, hb, h2 => exact absurd (by decide) h2
      | [e], hm, hr, h256, hb, h2 => exact absurd (by simp) h2
      | e :: f :: r, hm, hr, h256, hb, h2 =>
        obtain ⟨bb, off, rfl⟩ : ∃ bb off, A = some ⟨bb, off, none⟩ := by
          rcases hr with h | ⟨bb, off, h, _⟩
          · cases h
          · exact ⟨bb, off, h⟩
        have hl : (e :: f :: r).length = r.length + 2 := rfl
        by_cases hf : 1 < f
        · exact refTakeColumn_flag t n bb off m c e f r w (by omega) hn hr h256 hf
        · obtain ⟨k, rfl⟩ : ∃ k : Nat, n = (k : Int) := ⟨n.toNat, by omega⟩
          have hk : k ≤ 1000 := by omega
          by_cases f0 : f = 0
          · subst f0
            by_cases hc2 : c = 2
            · obtain rfl : r = [] := List.eq_nil_of_length_eq_zero (by omega)
              obtain rfl : m = 2 := by omega
              subst hc2
              exact refTakeColumn_zeroB t k bb off e w hk hr h256
            · exact refTakeColumn_zero t k bb off m c e r w hk (by omega) hr h256 (by omega) hbc hc hc2
          · obtain rfl : f = 1 := by omega
            by_cases hs : r.length < (k + 7) / 8
            · exact refTakeColumn_oneShort t k bb off m c e r w hk (by omega) hr h256 (by omega) hbc hc hs
            · by_cases hc2 : c = 2
              · obtain rfl : m = 2 := by omega
                subst hc2
                exact refTakeColumn_oneB t k bb off e r w hk (by omega) (by omega) hr h256
              · by_cases hck : c - 2 = (k + 7) / 8
                · obtain ⟨k8, hk8⟩ : ∃ k8, k8 = (k + 7) / 8 := ⟨_, rfl⟩
                  obtain rfl : m = k8 + 2 := by omega
                  obtain rfl : c = k8 + 2 := by omega
                  exact refTakeColumn_oneKeep t k bb off e k8 r w hk hk8 (by omega) (by omega) hr h256
                · exact refTakeColumn_oneFar t k bb off m c e r w hk (by omega) hr h256 (by omega) hbc hc (by omega) hc2 hck
  · exact refTakeColumn_n t n A m c b w (by omega)
end Go.Proofs.YtldalkhmbpkjpaaGreatDoor
