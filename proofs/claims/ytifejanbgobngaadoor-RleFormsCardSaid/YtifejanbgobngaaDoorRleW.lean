/- Walks of package rle: write, Put. -/
import Derived.Test.YtifejanbgobngaaDoorRleA
namespace Go.Proofs.YtifejanbgobngaaDoor
open Go.RowKit
set_option linter.unusedVariables false

def WInv (t : Int) (l : List Val3) (w : World) (bv lv : Value) (wr : World) : Prop :=
  ∃ (B : Option Addr) (cb : Nat) (pre : List Nat) (L : Option Addr) (cl : Nat) (rest : List Val3), bv = .slice B pre.length cb ∧ lv = .slice L rest.length cl ∧ wr.ownsRow w.heap.size 5 1 (.slice B pre.length cb) pre.length (ints .u8 pre) ∧ (B = none → cb = 0) ∧ pre ++ rleB rest = rleB l ∧ OkL t rest ∧ All64 rest ∧ Has w L (fl rest) ∧ rest.length ≤ cl ∧ cl ≤ 9223372036854775807 ∧ rest.length ≤ l.length ∧ Later w wr
theorem WInv.mk {t : Int} {l : List Val3} {w wr : World} (B : Option Addr) (cb nb : Nat) (pre : List Nat) (L : Option Addr) (cl m : Nat) (rest : List Val3) (hn : nb = pre.length) (hm : m = rest.length) (h1 : wr.ownsRow w.heap.size 5 1 (.slice B nb cb) nb (ints .u8 pre)) (h2 : B = none → cb = 0) (h3 : pre ++ rleB rest = rleB l) (h4 : OkL t rest) (h5 : All64 rest) (h6 : Has w L (fl rest)) (h7 : rest.length ≤ cl) (h8 : cl ≤ 9223372036854775807) (h9 : rest.length ≤ l.length) (h10 : Later w wr) : WInv t l w (.slice B nb cb) (.slice L m cl) wr := by
  subst hn hm
  exact ⟨B, cb, pre, L, cl, rest, rfl, rfl, h1, h2, h3, h4, h5, h6, h7, h8, h9, h10⟩
def lenV : Value → Nat
  | .slice _ n _ => n
  | _ => 0

set_option maxRecDepth 100000 in
set_option maxHeartbeats 4000000 in
theorem rleWrite_yes (t : Int) (A : Option Addr) (c : Nat) (l : List Val3) (w : World) (hs : S6 w) (ht : 1 ≤ t ∧ t ≤ 4) (hl : l.length ≤ 2000) (hr : Has w A (fl l)) (ho : OkL t l) (h64 : All64 l) (hlc : l.length ≤ c) (hcm : c ≤ 9223372036854775807) :
    Calls Tryd.prog 40 #[.int .i64 t, .slice A l.length c] w (WritesB (some (rleB l)) w) := by
  obtain ⟨a0, a2, a3, a4, S⟩ := hs.sn
  have HA := Lib.hid (all_yes t A c l a0 a2 a3 a4 w S ht (by omega) hr ho)
  have HT := Lib.hid ht
  have HTOT := Lib.hid (rleB_le ho)
  clear S hs ht
  go_enter Tryd.func40, Tryd.ntmps40
  go_wp2_with fail
  refine HA.out.mono ?_
  rintro e w1 ⟨rfl, l1⟩
  have L1 := Lib.hid l1
  clear l1 HA
  go_wp2_with fail
  go_loopw [7, 1] (fun bv lv wr => WInv t l w bv lv wr) (fun _ lv _ => lenV lv)
  case atStart => exact WInv.mk none 0 0 [] A c _ l rfl rfl (World.ownsRow_nil _ _ _ _) (fun _ => rfl) (by simp) ho h64 hr hlc hcm (Nat.le_refl _) L1.out
  case round =>
    obtain ⟨B, cb, pre, L, cl, rest, rfl, rfl, hown, hnil, hcat, hok, h64r, hhas, hrc, hclm, hrl, lat⟩ := hrel
    clear hr ho h64 hlc hcm L1
    obtain ⟨n, hn⟩ : ∃ n, n = pre.length := ⟨_, rfl⟩
    rw [← hn] at hown ⊢
    match rest, hcat, hok, h64r, hhas, hrc, hrl with
    | [], hcat, hok, h64r, hhas, hrc, hrl =>
      rw [rleB_nil, List.append_nil] at hcat
      have HR := Lib.hid (Has.own hown)
      have H1 := Lib.hid (own_cap hown)
      have H2 := Lib.hid (own_capmax hown)
      have H3 := Lib.hid hnil
      have H4 := Lib.hid lat
      have HC := Lib.hid hcat
      have HN := Lib.hid hn
      clear hown hnil lat hcat hhas hn
      go_wp2_with fail
      go_ret2
      refine ⟨.inr ⟨pre, B, cb, by rw [HC.out], ?_, HR.out, by rw [← HN.out]; exact H1.out, H2.out, H3.out⟩, H4.out⟩
      rw [← HN.out]
      rfl
    | x :: r, hcat, hok, h64r, hhas, hrc, hrl =>
      obtain ⟨m, hm⟩ : ∃ m, m = (x :: r).length := ⟨_, rfl⟩
      rw [← hm] at hrc hrl ⊢
      have hmr : m = r.length + 1 := hm
      have HRX := Lib.hid (runX_le x r)
      obtain ⟨K, hK⟩ : ∃ K, K = runX x r + 1 := ⟨_, rfl⟩
      have hKm : K ≤ m := by have := HRX.out; omega
      have hK1 : 1 ≤ K := by omega
      have HRUN := Lib.hid ((rleRun_any t HT.out L cl m (x :: r) x r wr rfl hm (by omega) (hhas.later lat) hok).mono fun e w' h => (show e = .returned (.int .i64 (K : Int)) ∧ Later wr w' from by rw [hK]; exact h))
      have HCAT := Lib.hid (show (pre ++ putNum K ++ oneB x.1 x.2.1 x.2.2) ++ rleB ((x :: r).drop K) = rleB l by
        rw [← hcat, rleB_cons, hK, List.drop_succ_cons, List.append_assoc, List.append_assoc])
      have HNL := Lib.hid (show n ≤ 62000 by
        have h1 := congrArg List.length hcat
        have h2 := HTOT.out
        rw [List.length_append] at h1
        omega)
      obtain ⟨b, off, hadr, c0, c1, c2⟩ := hhas.val3 0 (by simp)
      rw [Nat.zero_mul, Nat.add_zero] at c0 c1 c2
      obtain ⟨hx1, hx2⟩ := hok x (List.mem_cons_self ..)
      have HIX := Lib.hid (h64r x (List.mem_cons_self ..))
      have HOKD := Lib.hid (show OkL t ((x :: r).drop K) from fun y hy => hok y (List.mem_of_mem_drop hy))
      have H64D := Lib.hid (show All64 ((x :: r).drop K) from fun y hy => h64r y (List.mem_of_mem_drop hy))
      have HHAS := Lib.hid hhas
      have hdl : ((x :: r).drop K).length = m - K := by rw [List.length_drop, ← hm]
      have HDR := Lib.hid (show fl ((x :: r).drop K) = (fl (x :: r)).drop (K * 3) from fl_drop _ _)
      generalize (x :: r).drop K = rd at HCAT HOKD H64D hdl HDR
      obtain ⟨tx, ix, sx⟩ := x
      dsimp only at hx1 hx2 HIX HCAT
      simp only [List.getElem_cons_zero] at c0 c1 c2
      subst hx1
      have HMX := Lib.hid hx2
      subst hadr
      have CX0 := Lib.hid (show CellIs w ⟨b, off, none⟩ (.int .i64 tx) from c0)
      have CX1 := Lib.hid (show CellIs w ⟨b, off + 1, none⟩ (.int .i64 ix) from c1)
      have CX2 := Lib.hid (show CellIs w ⟨b, off + 2, none⟩ (.string sx) from c2)
      have OWN := Lib.hid hown
      have LAT := Lib.hid lat
      have HN := Lib.hid hn
      have HFD := Lib.hid (show Has w (some ⟨b, off + K * 3, none⟩) (fl rd) from by rw [HDR.out]; exact HHAS.out.drop (K * 3))
      have hKw : IntKind.u64.wrap (K : Int) = (K : Int) := by rw [IntKind.wrap_u64]; omega
      have hi1 : (0 : Int) ≤ (K : Int) := by omega
      have hi2 : (K : Int) ≤ (m : Int) := by omega
      have hi3 : (m : Int) ≤ (cl : Int) := by omega
      have hmpos : (0 : Int) < (m : Int) := by omega
      have HFIN := Lib.hid (fun (A6 : Option Addr) (c6 : Nat) (w6 : World) (o6 : w6.ownsRow w.heap.size 5 1 (.slice A6 (n + (putNum K).length + (oneB tx ix sx).length) c6) (n + (putNum K).length + (oneB tx ix sx).length) (ints .u8 pre ++ ints .u8 (putNum K) ++ ints .u8 (oneB tx ix sx))) (n6 : A6 = none → c6 = 0) (L6 : Later w w6) (L' : Option Addr) (cl' m' : Nat) (h1 : Has w L' (fl rd)) (h2 : rd.length ≤ cl') (h3 : cl' ≤ 9223372036854775807) (h4 : m' = rd.length) =>
        (WInv.mk A6 c6 _ (pre ++ putNum K ++ oneB tx ix sx) L' cl' m' rd (by rw [List.length_append, List.length_append, HN.out]) h4 (by rw [ints_snoc, ints_snoc]; exact o6) n6 HCAT.out HOKD.out H64D.out h1 h2 h3 (by omega) L6 : WInv tx l w (.slice A6 (n + (putNum K).length + (oneB tx ix sx).length) c6) (.slice L' m' cl') w6))
      clear hown hnil lat hcat hok h64r hhas hn hm hmr hK hx2 c0 c1 c2
      by_cases hck : cl = K
      · have h1 : K = cl := hck.symm
        subst h1
        have h2 : K = m := by omega
        subst h2
        have hrd0 : rd = [] := List.eq_nil_of_length_eq_zero (by omega)
        clear hck
        have HF2 := Lib.hid (fun A6 c6 w6 o6 n6 L6 L' => HFIN.out A6 c6 w6 o6 n6 L6 L' 0 0 (by rw [hrd0]; exact Has.nil_) (by rw [hrd0]; exact Nat.le_refl _) (by decide) (by rw [hrd0]; rfl))
        clear hrd0 HFIN
        go_wp2_with (first
          | (go_at_call 59; refine (HRUN.out).mono ?_; rintro e w2 ⟨rfl, l2⟩; have L2 := Lib.hid (LAT.out.trans l2); have O2 := Lib.hid (own_later OWN.out l2); clear l2)
          | (go_at_call 60; refine (put_makes K (by omega) _).mono ?_; intro e w3 h; obtain ⟨P3, p3, rfl, q3, b3, m3, n3, l3⟩ := h.gives; have Q3 := Lib.hid q3; have N3 := Lib.hid n3; have L3 := Lib.hid (L2.out.trans l3); have O3 := Lib.hid (own_later O2.out l3); clear h q3 b3 m3 n3 l3)
          | (at_builtin; refine wpList_append_rd _ rfl (.tmp 20) (.tmp 23) 22 rfl w.heap.size 5 (.int .u8 0) 1 Tryd.underlying22 info_u8 rfl _ n (ints .u8 pre) rfl O3.out _ P3 (putNum K).length p3 (ints .u8 (putNum K)) rfl Q3.out ?_ N3.out (ints_one _ _) ?_ ?_ ?_ ?_; (rw [ints_length]); (have h1 := HNL.out; have h2 := putNum_le K; unfold maxLen; omega); (have h1 := HNL.out; have h2 := putNum_le K; omega); (exact L3.out.size); intro A4 c4 w4 o4 g4 b4 n4; have O4 := Lib.hid o4; have L4 := Lib.hid (Later.of (L3.out.below.trans b4)); have e0 := (CX0.out.later L4.out).out; have e1 := (CX1.out.later L4.out).out; have e2 := (CX2.out.later L4.out).out; clear o4 g4 b4 n4)
          | (go_at_call 45; refine (cellPut_any tx ix sx _ HT.out HMX.out HIX.out).mono ?_; rintro e w5 ⟨P5, p5, rfl, q5, b5, m5, n5, l5⟩; have Q5 := Lib.hid q5; have N5 := Lib.hid n5; have L5 := Lib.hid (L4.out.trans l5); have O5 := Lib.hid (own_later O4.out l5); clear q5 b5 m5 n5 l5)
          | (at_builtin; refine wpList_append_rd _ rfl (.tmp 25) (.tmp 29) 22 rfl w.heap.size 5 (.int .u8 0) 1 Tryd.underlying22 info_u8 rfl _ (n + (putNum K).length) (ints .u8 pre ++ ints .u8 (putNum K)) rfl O5.out _ P5 (oneB tx ix sx).length p5 (ints .u8 (oneB tx ix sx)) rfl Q5.out ?_ N5.out (ints_one _ _) ?_ ?_ ?_ ?_; (rw [ints_length]); (have h1 := HNL.out; have h2 := putNum_le K; have h3 := oneB_le HMX.out; unfold maxLen; omega); (have h1 := HNL.out; have h2 := putNum_le K; have h3 := oneB_le HMX.out; omega); (exact L5.out.size); intro A6 c6 w6 o6 g6 b6 n6; have O6 := Lib.hid o6; have N6 := Lib.hid n6; have L6 := Lib.hid (Later.of (L5.out.below.trans b6)); clear o6 g6 b6 n6))
        go_wp2_with fail
        go_roundw
        case rel => exact HF2.out _ _ _ O6.out N6.out L6.out _
        case measure => simp [lenV]; omega
      · have HF2 := Lib.hid (fun A6 c6 w6 o6 n6 L6 => HFIN.out A6 c6 w6 o6 n6 L6 _ (cl - K) (m - K) HFD.out (by omega) (by omega) hdl.symm)
        clear HFIN
        go_wp2_with (first
          | (go_at_call 59; refine (HRUN.out).mono ?_; rintro e w2 ⟨rfl, l2⟩; have L2 := Lib.hid (LAT.out.trans l2); have O2 := Lib.hid (own_later OWN.out l2); clear l2)
          | (go_at_call 60; refine (put_makes K (by omega) _).mono ?_; intro e w3 h; obtain ⟨P3, p3, rfl, q3, b3, m3, n3, l3⟩ := h.gives; have Q3 := Lib.hid q3; have N3 := Lib.hid n3; have L3 := Lib.hid (L2.out.trans l3); have O3 := Lib.hid (own_later O2.out l3); clear h q3 b3 m3 n3 l3)
          | (at_builtin; refine wpList_append_rd _ rfl (.tmp 20) (.tmp 23) 22 rfl w.heap.size 5 (.int .u8 0) 1 Tryd.underlying22 info_u8 rfl _ n (ints .u8 pre) rfl O3.out _ P3 (putNum K).length p3 (ints .u8 (putNum K)) rfl Q3.out ?_ N3.out (ints_one _ _) ?_ ?_ ?_ ?_; (rw [ints_length]); (have h1 := HNL.out; have h2 := putNum_le K; unfold maxLen; omega); (have h1 := HNL.out; have h2 := putNum_le K; omega); (exact L3.out.size); intro A4 c4 w4 o4 g4 b4 n4; have O4 := Lib.hid o4; have L4 := Lib.hid (Later.of (L3.out.below.trans b4)); have e0 := (CX0.out.later L4.out).out; have e1 := (CX1.out.later L4.out).out; have e2 := (CX2.out.later L4.out).out; clear o4 g4 b4 n4)
          | (go_at_call 45; refine (cellPut_any tx ix sx _ HT.out HMX.out HIX.out).mono ?_; rintro e w5 ⟨P5, p5, rfl, q5, b5, m5, n5, l5⟩; have Q5 := Lib.hid q5; have N5 := Lib.hid n5; have L5 := Lib.hid (L4.out.trans l5); have O5 := Lib.hid (own_later O4.out l5); clear q5 b5 m5 n5 l5)
          | (at_builtin; refine wpList_append_rd _ rfl (.tmp 25) (.tmp 29) 22 rfl w.heap.size 5 (.int .u8 0) 1 Tryd.underlying22 info_u8 rfl _ (n + (putNum K).length) (ints .u8 pre ++ ints .u8 (putNum K)) rfl O5.out _ P5 (oneB tx ix sx).length p5 (ints .u8 (oneB tx ix sx)) rfl Q5.out ?_ N5.out (ints_one _ _) ?_ ?_ ?_ ?_; (rw [ints_length]); (have h1 := HNL.out; have h2 := putNum_le K; have h3 := oneB_le HMX.out; unfold maxLen; omega); (have h1 := HNL.out; have h2 := putNum_le K; have h3 := oneB_le HMX.out; omega); (exact L5.out.size); intro A6 c6 w6 o6 g6 b6 n6; have O6 := Lib.hid o6; have N6 := Lib.hid n6; have L6 := Lib.hid (Later.of (L5.out.below.trans b6)); clear o6 g6 b6 n6))
        go_wp2_with fail
        go_roundw
        case rel => exact HF2.out _ _ _ O6.out N6.out L6.out
        case measure => simp [lenV]; omega

set_option maxRecDepth 100000 in
theorem rleWrite_no (t : Int) (A : Option Addr) (c : Nat) (l : List Val3) (w : World) (hs : S6 w) (hl : l.length ≤ 2000) (hr : Has w A (fl l)) (ho : ¬ ((1 ≤ t ∧ t ≤ 4) ∧ OkL t l)) :
    Calls Tryd.prog 40 #[.int .i64 t, .slice A l.length c] w (WritesB none w) := by
  have hif : Tryd.prog.isIface 50 = true := by kernel_rfl
  obtain ⟨a0, a2, a3, a4, S⟩ := hs.sn
  have HA := Lib.hid (all_no t A c l a0 a2 a3 a4 w S (by omega) hr ho)
  clear S hs ho hr
  go_enter Tryd.func40, Tryd.ntmps40
  go_wp2_with fail
  refine HA.out.mono ?_
  rintro e w1 ⟨v, rfl, ⟨p, rfl⟩, l1⟩
  have heq := run_eql_iface_nil (P := Tryd.prog) (w := w1) 50 hif 90 (.pointer (some p))
  go_wp2_with fail
  go_ret2
  exact ⟨.inl ⟨rfl, p, rfl⟩, l1⟩

set_option maxRecDepth 100000 in
theorem rlePut_any (t : Int) (A : Option Addr) (c : Nat) (l : List Val3) (w : World) (hs : S6 w) (hl : l.length ≤ 2000) (hr : Has w A (fl l)) (h64 : All64 l) (hlc : l.length ≤ c) (hcm : c ≤ 9223372036854775807) :
    Calls Tryd.prog 23 #[.int .i64 t, .slice A l.length c] w (PutsB (putL t l) w) := by
  have HC := Lib.hid (show Calls Tryd.prog 40 #[.int .i64 t, .slice A l.length c] w (WritesB (putL t l) w) from by
    unfold putL
    by_cases h : (1 ≤ t ∧ t ≤ 4) ∧ OkL t l
    · rw [if_pos h]; exact rleWrite_yes t A c l w hs h.1 hl hr h.2 h64 hlc hcm
    · rw [if_neg h]; exact rleWrite_no t A c l w hs hl hr h)
  clear hs hr h64 hl hlc hcm
  go_enter Tryd.func23, Tryd.ntmps23
  go_wp2_with fail
  refine HC.out.mono ?_
  rintro e w1 ⟨⟨ho, p, rfl⟩ | ⟨b, B, cb, ho, rfl, h1, h2, h3, h4⟩, l1⟩
  · go_wp2_with (go_at_call 27; refine (listB_no _ _ _ p _).mono ?_; rintro e w' ⟨rfl, rfl⟩)
    go_ret2
    exact ⟨.inl ⟨ho, rfl⟩, l1⟩
  · have H := Lib.hid (show PutsB (putL t l) w (.returned (.tuple #[.slice B b.length cb, .bool true])) w1 from ⟨.inr ⟨b, B, cb, ho, rfl, h1, h2, h3, h4⟩, l1⟩)
    clear ho h1 h2 h3 h4 l1
    go_wp2_with (go_at_call 27; refine (listB_yes _ _ _ _).mono ?_; rintro e w' ⟨rfl, rfl⟩)
    go_ret2
    exact H.out
end Go.Proofs.YtifejanbgobngaaDoor
