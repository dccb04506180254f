import Derived.Test.YtifejanbgobngaaDoorRleM
import Derived.Test.YtifejanbgobngaaDoorRCmp
import Derived.Test.YtifejanbgobngaaDoorLists
import Derived.Deep.RegionHeld3
/- Walks of package rle: run, write, Put. -/

namespace Go.Proofs.YtifejanbgobngaaDoor
open Go.RowKit
set_option linter.unusedVariables false

theorem ok_cmp {t : Int} (ht : 1 ≤ t ∧ t ≤ 4) {l : List Val3} (ho : OkL t l) {x y : Val3} (hx : x ∈ l) (hy : y ∈ l) : cmpV x.1 x.2.1 x.2.2 y.1 y.2.1 y.2.2 = 0 ↔ y = x := by
  obtain ⟨t1, i, s⟩ := x
  obtain ⟨t2, i', s'⟩ := y
  obtain ⟨h1, m1⟩ := ho _ hx
  obtain ⟨h2, m2⟩ := ho _ hy
  dsimp only at h1 h2 m1 m2 ⊢
  subst h1
  subst h2
  rw [cmpV_ok ht m1 m2]
  constructor
  · intro e; injection e with e1 e2; rw [e1, e2]
  · intro e; injection e with _ e; injection e with e1 e2; rw [e1, e2]

set_option maxRecDepth 100000 in
set_option maxHeartbeats 2000000 in
theorem rleRun_any (t : Int) (ht : 1 ≤ t ∧ t ≤ 4) (A : Option Addr) (c m : Nat) (l : List Val3) (x : Val3) (r : List Val3) (w : World) (he : l = x :: r) (hm : m = l.length) (hl : m ≤ 2000) (hr : Has w A (fl l)) (ho : OkL t l) :
    Calls Tryd.prog 59 #[.slice A m c] w fun e w' => e = .returned (.int .i64 ((runX x r + 1 : Nat) : Int)) ∧ Later w w' := by
  have hrl := runX_le x r
  have hml : m = r.length + 1 := by rw [hm, he]; rfl
  have HE := Lib.hid he
  have HM := Lib.hid hm
  have HML := Lib.hid hml
  obtain ⟨R, hR⟩ : ∃ R, R = runX x r := ⟨_, rfl⟩
  rw [← hR] at hrl ⊢
  have HR := Lib.hid hR
  have HHAS := Lib.hid hr
  have HOK := Lib.hid ho
  have hRm : R + 1 ≤ m := by omega
  clear hr ho he hm hR hml hrl
  go_enter Tryd.func59, Tryd.ntmps59
  go_wp2_with fail
  go_loopw [3] (fun iv wr => ∃ n : Nat, iv = .int .i64 n ∧ 1 ≤ n ∧ n ≤ R + 1 ∧ Later w wr) (fun iv _ => m - (intOf iv).toNat)
  case atStart => exact ⟨1, rfl, by omega, by omega, Later.refl _⟩
  case round =>
    obtain ⟨n, rfl, hn1, hnR, lat⟩ := hrel
    by_cases hlt : n < m
    · have hpos : 0 < l.length := by have := HM.out; omega
      have hnl : n < l.length := by have := HM.out; omega
      obtain ⟨b, off, hA, c0, c1, c2⟩ := (HHAS.out.later lat).val3 0 hpos
      obtain ⟨b', off', hA', d0, d1, d2⟩ := (HHAS.out.later lat).val3 n hnl
      subst hA
      obtain ⟨rfl, rfl⟩ : b = b' ∧ off = off' := by injection hA' with h; injection h with h1 h2; exact ⟨h1, h2⟩
      clear hA'
      have hx0 : l[0] = x := by have := HE.out; subst this; rfl
      have HZ := Lib.hid (ok_cmp ht HOK.out (List.getElem_mem hpos) (List.getElem_mem hnl))
      have HSTEP := Lib.hid (show l[n] = x ↔ n - 1 < R from by
        have e1 := HE.out
        have e2 := HR.out
        subst e1
        have h := runX_step (x := x) (l := r) (k := n - 1) (by omega) (by have := HML.out; omega)
        rw [← e2] at h
        rw [← h]
        have : (x :: r)[n] = r[n - 1]'(by have := HML.out; omega) := by
          obtain ⟨k, rfl⟩ : ∃ k, n = k + 1 := ⟨n - 1, by omega⟩
          rfl
        rw [this])
      rw [hx0] at c0 c1 c2 HZ
      have HCMP := Lib.hid (fun w' => valCmp_any x.1 x.2.1 x.2.2 l[n].1 l[n].2.1 l[n].2.2 w')
      rw [Nat.zero_mul, Nat.add_zero] at c0 c1 c2
      generalize l[n] = y at d0 d1 d2 HZ HSTEP HCMP
      obtain ⟨tx, ix, sx⟩ := x
      obtain ⟨ty, iy, sy⟩ := y
      dsimp only at c0 c1 c2 d0 d1 d2 HZ HCMP
      obtain ⟨z, hz⟩ : ∃ z, z = cmpV tx ix sx ty iy sy := ⟨_, rfl⟩
      rw [← hz] at HZ
      have HCMP := Lib.hid (fun w' => (HCMP.out w').mono fun e w'' (h : TellsInt _ _ _ _) => (show e = .returned (.int .i64 z) ∧ Later w' w'' from by rw [hz]; exact h))
      have e0 : CellIs wr ⟨b, off, none⟩ (.int .i64 tx) := c0
      have e1 : CellIs wr ⟨b, off + 1, none⟩ (.int .i64 ix) := c1
      have e2 : CellIs wr ⟨b, off + 2, none⟩ (.string sx) := c2
      have g0 : CellIs wr ⟨b, off + n * 3, none⟩ (.int .i64 ty) := d0
      have g1 : CellIs wr ⟨b, off + n * 3 + 1, none⟩ (.int .i64 iy) := d1
      have g2 : CellIs wr ⟨b, off + n * 3 + 2, none⟩ (.string sy) := d2
      have LAT := Lib.hid lat
      have hm0 : 0 < m := by omega
      have hd : decide ((n : Int) < (m : Int)) = true := by simp; omega
      have hi1 : (0 : Int) ≤ (n : Int) := by omega
      have hi2 : (n : Int) < (m : Int) := by omega
      have hi3 : (0 : Int) < (m : Int) := by omega
      clear hz hx0 lat c0 c1 c2 d0 d1 d2
      have e0 := e0.drew
      have e1 := e1.drew
      have e2 := e2.drew
      have g0 := g0.drew
      have g1 := g1.drew
      have g2 := g2.drew
      have lz := (Later.refl wr).drew
      by_cases hy : n - 1 < R
      · have hz0 : z = 0 := HZ.out.2 (HSTEP.out.2 hy)
        subst hz0
        go_wp2_with fail
        first
          | go_region_held3 (fun w' => w'.cell? ⟨b, off, none⟩ = some (.int .i64 tx) ∧ w'.cell? ⟨b, off + 1, none⟩ = some (.int .i64 ix) ∧ w'.cell? ⟨b, off + 2, none⟩ = some (.string sx) ∧ w'.cell? ⟨b, off + n * 3, none⟩ = some (.int .i64 ty) ∧ w'.cell? ⟨b, off + n * 3 + 1, none⟩ = some (.int .i64 iy) ∧ w'.cell? ⟨b, off + n * 3 + 2, none⟩ = some (.string sy)) (exact ⟨e0.out, e1.out, e2.out, g0.out, g1.out, g2.out⟩) (first | (go_at_call 62; refine (HCMP.out _).mono ?_; rintro e wX ⟨rfl, lX⟩; have lz := lz.trans lX; have e0 := e0.later lX; have e1 := e1.later lX; have e2 := e2.later lX; have g0 := g0.later lX; have g1 := g1.later lX; have g2 := g2.later lX; clear lX))
          | fail "no walk"
        all_goals go_wp2_with fail
        all_goals go_roundw
        case rel => exact ⟨n + 1, by go_num, by omega, by omega, LAT.out.trans lz⟩
        case measure => simp [intOf]; omega
      · have hz0 : ¬ z = 0 := fun h => hy (HSTEP.out.1 (HZ.out.1 h))
        have hzb : (z == 0) = false := by rw [beq_eq_false_iff_ne]; exact hz0
        have hne := Lib.hid (show n = R + 1 by omega)
        clear hz0
        go_wp2_with fail
        first
          | go_region_held3 (fun w' => w'.cell? ⟨b, off, none⟩ = some (.int .i64 tx) ∧ w'.cell? ⟨b, off + 1, none⟩ = some (.int .i64 ix) ∧ w'.cell? ⟨b, off + 2, none⟩ = some (.string sx) ∧ w'.cell? ⟨b, off + n * 3, none⟩ = some (.int .i64 ty) ∧ w'.cell? ⟨b, off + n * 3 + 1, none⟩ = some (.int .i64 iy) ∧ w'.cell? ⟨b, off + n * 3 + 2, none⟩ = some (.string sy)) (exact ⟨e0.out, e1.out, e2.out, g0.out, g1.out, g2.out⟩) (first | (go_at_call 62; refine (HCMP.out _).mono ?_; rintro e wX ⟨rfl, lX⟩; have lz := lz.trans lX; have e0 := e0.later lX; have e1 := e1.later lX; have e2 := e2.later lX; have g0 := g0.later lX; have g1 := g1.later lX; have g2 := g2.later lX; clear lX))
          | fail "no walk"
        all_goals go_wp2_with fail
        all_goals go_ret
        exact ⟨by rw [← hne.out]; rfl, LAT.out.trans lz⟩
    · have hne := Lib.hid (show n = R + 1 by omega)
      have LAT := Lib.hid lat
      have lz := (Later.refl wr).drew
      have hd : decide ((n : Int) < (m : Int)) = false := by simp; omega
      clear lat
      go_wp2_with fail
      go_quiet (fail)
      go_wp2_with fail
      go_ret
      exact ⟨by rw [← hne.out]; rfl, LAT.out.drewN _⟩
end Go.Proofs.YtifejanbgobngaaDoor

/- Walks of package rle: write, Put. -/

namespace Go.Proofs.YtifejanbgobngaaDoor
open Go.RowKit
set_option linter.unusedVariables false

def WInv (t : Int) (l : List Val3) (w : World) (bv lv : Value) (wr : World) : Prop :=
  ∃ (B : Option Addr) (cb : Nat) (pre : List Nat) (L : Option Addr) (cl : Nat) (rest : List Val3), bv = .slice B pre.length cb ∧ lv = .slice L rest.length cl ∧ wr.ownsRow w.heap.size 5 1 (.slice B pre.length cb) pre.length (ints .u8 pre) ∧ (B = none → cb = 0) ∧ pre ++ rleB rest = rleB l ∧ OkL t rest ∧ All64 rest ∧ Has w L (fl rest) ∧ rest.length ≤ cl ∧ cl ≤ 9223372036854775807 ∧ rest.length ≤ l.length ∧ Later w wr
theorem WInv.mk {t : Int} {l : List Val3} {w wr : World} (B : Option Addr) (cb nb : Nat) (pre : List Nat) (L : Option Addr) (cl m : Nat) (rest : List Val3) (hn : nb = pre.length) (hm : m = rest.length) (h1 : wr.ownsRow w.heap.size 5 1 (.slice B nb cb) nb (ints .u8 pre)) (h2 : B = none → cb = 0) (h3 : pre ++ rleB rest = rleB l) (h4 : OkL t rest) (h5 : All64 rest) (h6 : Has w L (fl rest)) (h7 : rest.length ≤ cl) (h8 : cl ≤ 9223372036854775807) (h9 : rest.length ≤ l.length) (h10 : Later w wr) : WInv t l w (.slice B nb cb) (.slice L m cl) wr := by
  subst hn hm
  exact ⟨B, cb, pre, L, cl, rest, rfl, rfl, h1, h2, h3, h4, h5, h6, h7, h8, h9, h10⟩
def lenV : Value → Nat
  | .slice _ n _ => n
  | _ => 0

set_option maxRecDepth 100000 in
set_option maxHeartbeats 4000000 in
theorem rleWrite_yes (t : Int) (A : Option Addr) (c : Nat) (l : List Val3) (w : World) (hs : S6 w) (ht : 1 ≤ t ∧ t ≤ 4) (hl : l.length ≤ 2000) (hr : Has w A (fl l)) (ho : OkL t l) (h64 : All64 l) (hlc : l.length ≤ c) (hcm : c ≤ 9223372036854775807) :
    Calls Tryd.prog 40 #[.int .i64 t, .slice A l.length c] w (WritesB (some (rleB l)) w) := by
  obtain ⟨a0, a2, a3, a4, S⟩ := hs.sn
  have HA := Lib.hid (all_yes t A c l a0 a2 a3 a4 w S ht (by omega) hr ho)
  have HT := Lib.hid ht
  have HTOT := Lib.hid (rleB_le ho)
  clear S hs ht
  go_enter Tryd.func40, Tryd.ntmps40
  go_wp2_with fail
  refine HA.out.mono ?_
  rintro e w1 ⟨rfl, l1⟩
  have L1 := Lib.hid l1
  clear l1 HA
  go_wp2_with fail
  go_loopw [7, 1] (fun bv lv wr => WInv t l w bv lv wr) (fun _ lv _ => lenV lv)
  case atStart => exact WInv.mk none 0 0 [] A c _ l rfl rfl (World.ownsRow_nil _ _ _ _) (fun _ => rfl) (by simp) ho h64 hr hlc hcm (Nat.le_refl _) L1.out
  case round =>
    obtain ⟨B, cb, pre, L, cl, rest, rfl, rfl, hown, hnil, hcat, hok, h64r, hhas, hrc, hclm, hrl, lat⟩ := hrel
    clear hr ho h64 hlc hcm L1
    obtain ⟨n, hn⟩ : ∃ n, n = pre.length := ⟨_, rfl⟩
    rw [← hn] at hown ⊢
    match rest, hcat, hok, h64r, hhas, hrc, hrl with
    | [], hcat, hok, h64r, hhas, hrc, hrl =>
      rw [rleB_nil, List.append_nil] at hcat
      have HR := Lib.hid (Has.own hown)
      have H1 := Lib.hid (own_cap hown)
      have H2 := Lib.hid (own_capmax hown)
      have H3 := Lib.hid hnil
      have H4 := Lib.hid lat
      have HC := Lib.hid hcat
      have HN := Lib.hid hn
      clear hown hnil lat hcat hhas hn
      go_wp2_with fail
      go_ret2
      refine ⟨.inr ⟨pre, B, cb, by rw [HC.out], ?_, HR.out, by rw [← HN.out]; exact H1.out, H2.out, H3.out⟩, H4.out⟩
      rw [← HN.out]
      rfl
    | x :: r, hcat, hok, h64r, hhas, hrc, hrl =>
      obtain ⟨m, hm⟩ : ∃ m, m = (x :: r).length := ⟨_, rfl⟩
      rw [← hm] at hrc hrl ⊢
      have hmr : m = r.length + 1 := hm
      have HRX := Lib.hid (runX_le x r)
      obtain ⟨K, hK⟩ : ∃ K, K = runX x r + 1 := ⟨_, rfl⟩
      have hKm : K ≤ m := by have := HRX.out; omega
      have hK1 : 1 ≤ K := by omega
      have HRUN := Lib.hid ((rleRun_any t HT.out L cl m (x :: r) x r wr rfl hm (by omega) (hhas.later lat) hok).mono fun e w' h => (show e = .returned (.int .i64 (K : Int)) ∧ Later wr w' from by rw [hK]; exact h))
      have HCAT := Lib.hid (show (pre ++ putNum K ++ oneB x.1 x.2.1 x.2.2) ++ rleB ((x :: r).drop K) = rleB l by
        rw [← hcat, rleB_cons, hK, List.drop_succ_cons, List.append_assoc, List.append_assoc])
      have HNL := Lib.hid (show n ≤ 62000 by
        have h1 := congrArg List.length hcat
        have h2 := HTOT.out
        rw [List.length_append] at h1
        omega)
      obtain ⟨b, off, hadr, c0, c1, c2⟩ := hhas.val3 0 (by simp)
      rw [Nat.zero_mul, Nat.add_zero] at c0 c1 c2
      obtain ⟨hx1, hx2⟩ := hok x (List.mem_cons_self ..)
      have HIX := Lib.hid (h64r x (List.mem_cons_self ..))
      have HOKD := Lib.hid (show OkL t ((x :: r).drop K) from fun y hy => hok y (List.mem_of_mem_drop hy))
      have H64D := Lib.hid (show All64 ((x :: r).drop K) from fun y hy => h64r y (List.mem_of_mem_drop hy))
      have HHAS := Lib.hid hhas
      have hdl : ((x :: r).drop K).length = m - K := by rw [List.length_drop, ← hm]
      have HDR := Lib.hid (show fl ((x :: r).drop K) = (fl (x :: r)).drop (K * 3) from fl_drop _ _)
      generalize (x :: r).drop K = rd at HCAT HOKD H64D hdl HDR
      obtain ⟨tx, ix, sx⟩ := x
      dsimp only at hx1 hx2 HIX HCAT
      simp only [List.getElem_cons_zero] at c0 c1 c2
      subst hx1
      have HMX := Lib.hid hx2
      subst hadr
      have CX0 := Lib.hid (show CellIs w ⟨b, off, none⟩ (.int .i64 tx) from c0)
      have CX1 := Lib.hid (show CellIs w ⟨b, off + 1, none⟩ (.int .i64 ix) from c1)
      have CX2 := Lib.hid (show CellIs w ⟨b, off + 2, none⟩ (.string sx) from c2)
      have OWN := Lib.hid hown
      have LAT := Lib.hid lat
      have HN := Lib.hid hn
      have HFD := Lib.hid (show Has w (some ⟨b, off + K * 3, none⟩) (fl rd) from by rw [HDR.out]; exact HHAS.out.drop (K * 3))
      have hKw : IntKind.u64.wrap (K : Int) = (K : Int) := by rw [IntKind.wrap_u64]; omega
      have hi1 : (0 : Int) ≤ (K : Int) := by omega
      have hi2 : (K : Int) ≤ (m : Int) := by omega
      have hi3 : (m : Int) ≤ (cl : Int) := by omega
      have hmpos : (0 : Int) < (m : Int) := by omega
      have HFIN := Lib.hid (fun (A6 : Option Addr) (c6 : Nat) (w6 : World) (o6 : w6.ownsRow w.heap.size 5 1 (.slice A6 (n + (putNum K).length + (oneB tx ix sx).length) c6) (n + (putNum K).length + (oneB tx ix sx).length) (ints .u8 pre ++ ints .u8 (putNum K) ++ ints .u8 (oneB tx ix sx))) (n6 : A6 = none → c6 = 0) (L6 : Later w w6) (L' : Option Addr) (cl' m' : Nat) (h1 : Has w L' (fl rd)) (h2 : rd.length ≤ cl') (h3 : cl' ≤ 9223372036854775807) (h4 : m' = rd.length) =>
        (WInv.mk A6 c6 _ (pre ++ putNum K ++ oneB tx ix sx) L' cl' m' rd (by rw [List.length_append, List.length_append, HN.out]) h4 (by rw [ints_snoc, ints_snoc]; exact o6) n6 HCAT.out HOKD.out H64D.out h1 h2 h3 (by omega) L6 : WInv tx l w (.slice A6 (n + (putNum K).length + (oneB tx ix sx).length) c6) (.slice L' m' cl') w6))
      clear hown hnil lat hcat hok h64r hhas hn hm hmr hK hx2 c0 c1 c2
      by_cases hck : cl = K
      · have h1 : K = cl := hck.symm
        subst h1
        have h2 : K = m := by omega
        subst h2
        have hrd0 : rd = [] := List.eq_nil_of_length_eq_zero (by omega)
        clear hck
        have HF2 := Lib.hid (fun A6 c6 w6 o6 n6 L6 L' => HFIN.out A6 c6 w6 o6 n6 L6 L' 0 0 (by rw [hrd0]; exact Has.nil_) (by rw [hrd0]; exact Nat.le_refl _) (by decide) (by rw [hrd0]; rfl))
        clear hrd0 HFIN
        go_wp2_with (first
          | (go_at_call 59; refine (HRUN.out).mono ?_; rintro e w2 ⟨rfl, l2⟩; have L2 := Lib.hid (LAT.out.trans l2); have O2 := Lib.hid (own_later OWN.out l2); clear l2)
          | (go_at_call 60; refine (put_makes K (by omega) _).mono ?_; intro e w3 h; obtain ⟨P3, p3, rfl, q3, b3, m3, n3, l3⟩ := h.gives; have Q3 := Lib.hid q3; have N3 := Lib.hid n3; have L3 := Lib.hid (L2.out.trans l3); have O3 := Lib.hid (own_later O2.out l3); clear h q3 b3 m3 n3 l3)
          | (at_builtin; refine wpList_append_rd _ rfl (.tmp 20) (.tmp 23) 22 rfl w.heap.size 5 (.int .u8 0) 1 Tryd.underlying22 info_u8 rfl _ n (ints .u8 pre) rfl O3.out _ P3 (putNum K).length p3 (ints .u8 (putNum K)) rfl Q3.out ?_ N3.out (ints_one _ _) ?_ ?_ ?_ ?_; (rw [ints_length]); (have h1 := HNL.out; have h2 := putNum_le K; unfold maxLen; omega); (have h1 := HNL.out; have h2 := putNum_le K; omega); (exact L3.out.size); intro A4 c4 w4 o4 g4 b4 n4; have O4 := Lib.hid o4; have L4 := Lib.hid (Later.of (L3.out.below.trans b4)); have e0 := (CX0.out.later L4.out).out; have e1 := (CX1.out.later L4.out).out; have e2 := (CX2.out.later L4.out).out; clear o4 g4 b4 n4)
          | (go_at_call 45; refine (cellPut_any tx ix sx _ HT.out HMX.out HIX.out).mono ?_; rintro e w5 ⟨P5, p5, rfl, q5, b5, m5, n5, l5⟩; have Q5 := Lib.hid q5; have N5 := Lib.hid n5; have L5 := Lib.hid (L4.out.trans l5); have O5 := Lib.hid (own_later O4.out l5); clear q5 b5 m5 n5 l5)
          | (at_builtin; refine wpList_append_rd _ rfl (.tmp 25) (.tmp 29) 22 rfl w.heap.size 5 (.int .u8 0) 1 Tryd.underlying22 info_u8 rfl _ (n + (putNum K).length) (ints .u8 pre ++ ints .u8 (putNum K)) rfl O5.out _ P5 (oneB tx ix sx).length p5 (ints .u8 (oneB tx ix sx)) rfl Q5.out ?_ N5.out (ints_one _ _) ?_ ?_ ?_ ?_; (rw [ints_length]); (have h1 := HNL.out; have h2 := putNum_le K; have h3 := oneB_le HMX.out; unfold maxLen; omega); (have h1 := HNL.out; have h2 := putNum_le K; have h3 := oneB_le HMX.out; omega); (exact L5.out.size); intro A6 c6 w6 o6 g6 b6 n6; have O6 := Lib.hid o6; have N6 := Lib.hid n6; have L6 := Lib.hid (Later.of (L5.out.below.trans b6)); clear o6 g6 b6 n6))
        go_wp2_with fail
        go_roundw
        case rel => exact HF2.out _ _ _ O6.out N6.out L6.out _
        case measure => simp [lenV]; omega
      · have HF2 := Lib.hid (fun A6 c6 w6 o6 n6 L6 => HFIN.out A6 c6 w6 o6 n6 L6 _ (cl - K) (m - K) HFD.out (by omega) (by omega) hdl.symm)
        clear HFIN
        go_wp2_with (first
          | (go_at_call 59; refine (HRUN.out).mono ?_; rintro e w2 ⟨rfl, l2⟩; have L2 := Lib.hid (LAT.out.trans l2); have O2 := Lib.hid (own_later OWN.out l2); clear l2)
          | (go_at_call 60; refine (put_makes K (by omega) _).mono ?_; intro e w3 h; obtain ⟨P3, p3, rfl, q3, b3, m3, n3, l3⟩ := h.gives; have Q3 := Lib.hid q3; have N3 := Lib.hid n3; have L3 := Lib.hid (L2.out.trans l3); have O3 := Lib.hid (own_later O2.out l3); clear h q3 b3 m3 n3 l3)
          | (at_builtin; refine wpList_append_rd _ rfl (.tmp 20) (.tmp 23) 22 rfl w.heap.size 5 (.int .u8 0) 1 Tryd.underlying22 info_u8 rfl _ n (ints .u8 pre) rfl O3.out _ P3 (putNum K).length p3 (ints .u8 (putNum K)) rfl Q3.out ?_ N3.out (ints_one _ _) ?_ ?_ ?_ ?_; (rw [ints_length]); (have h1 := HNL.out; have h2 := putNum_le K; unfold maxLen; omega); (have h1 := HNL.out; have h2 := putNum_le K; omega); (exact L3.out.size); intro A4 c4 w4 o4 g4 b4 n4; have O4 := Lib.hid o4; have L4 := Lib.hid (Later.of (L3.out.below.trans b4)); have e0 := (CX0.out.later L4.out).out; have e1 := (CX1.out.later L4.out).out; have e2 := (CX2.out.later L4.out).out; clear o4 g4 b4 n4)
          | (go_at_call 45; refine (cellPut_any tx ix sx _ HT.out HMX.out HIX.out).mono ?_; rintro e w5 ⟨P5, p5, rfl, q5, b5, m5, n5, l5⟩; have Q5 := Lib.hid q5; have N5 := Lib.hid n5; have L5 := Lib.hid (L4.out.trans l5); have O5 := Lib.hid (own_later O4.out l5); clear q5 b5 m5 n5 l5)
          | (at_builtin; refine wpList_append_rd _ rfl (.tmp 25) (.tmp 29) 22 rfl w.heap.size 5 (.int .u8 0) 1 Tryd.underlying22 info_u8 rfl _ (n + (putNum K).length) (ints .u8 pre ++ ints .u8 (putNum K)) rfl O5.out _ P5 (oneB tx ix sx).length p5 (ints .u8 (oneB tx ix sx)) rfl Q5.out ?_ N5.out (ints_one _ _) ?_ ?_ ?_ ?_; (rw [ints_length]); (have h1 := HNL.out; have h2 := putNum_le K; have h3 := oneB_le HMX.out; unfold maxLen; omega); (have h1 := HNL.out; have h2 := putNum_le K; have h3 := oneB_le HMX.out; omega); (exact L5.out.size); intro A6 c6 w6 o6 g6 b6 n6; have O6 := Lib.hid o6; have N6 := Lib.hid n6; have L6 := Lib.hid (Later.of (L5.out.below.trans b6)); clear o6 g6 b6 n6))
        go_wp2_with fail
        go_roundw
        case rel => exact HF2.out _ _ _ O6.out N6.out L6.out
        case measure => simp [lenV]; omega

set_option maxRecDepth 100000 in
theorem rleWrite_no (t : Int) (A : Option Addr) (c : Nat) (l : List Val3) (w : World) (hs : S6 w) (hl : l.length ≤ 2000) (hr : Has w A (fl l)) (ho : ¬ ((1 ≤ t ∧ t ≤ 4) ∧ OkL t l)) :
    Calls Tryd.prog 40 #[.int .i64 t, .slice A l.length c] w (WritesB none w) := by
  have hif : Tryd.prog.isIface 50 = true := by kernel_rfl
  obtain ⟨a0, a2, a3, a4, S⟩ := hs.sn
  have HA := Lib.hid (all_no t A c l a0 a2 a3 a4 w S (by omega) hr ho)
  clear S hs ho hr
  go_enter Tryd.func40, Tryd.ntmps40
  go_wp2_with fail
  refine HA.out.mono ?_
  rintro e w1 ⟨v, rfl, ⟨p, rfl⟩, l1⟩
  have heq := run_eql_iface_nil (P := Tryd.prog) (w := w1) 50 hif 90 (.pointer (some p))
  go_wp2_with fail
  go_ret2
  exact ⟨.inl ⟨rfl, p, rfl⟩, l1⟩

set_option maxRecDepth 100000 in
theorem rlePut_any (t : Int) (A : Option Addr) (c : Nat) (l : List Val3) (w : World) (hs : S6 w) (hl : l.length ≤ 2000) (hr : Has w A (fl l)) (h64 : All64 l) (hlc : l.length ≤ c) (hcm : c ≤ 9223372036854775807) :
    Calls Tryd.prog 23 #[.int .i64 t, .slice A l.length c] w (PutsB (putL t l) w) := by
  have HC := Lib.hid (show Calls Tryd.prog 40 #[.int .i64 t, .slice A l.length c] w (WritesB (putL t l) w) from by
    unfold putL
    by_cases h : (1 ≤ t ∧ t ≤ 4) ∧ OkL t l
    · rw [if_pos h]; exact rleWrite_yes t A c l w hs h.1 hl hr h.2 h64 hlc hcm
    · rw [if_neg h]; exact rleWrite_no t A c l w hs hl hr h)
  clear hs hr h64 hl hlc hcm
  go_enter Tryd.func23, Tryd.ntmps23
  go_wp2_with fail
  refine HC.out.mono ?_
  rintro e w1 ⟨⟨ho, p, rfl⟩ | ⟨b, B, cb, ho, rfl, h1, h2, h3, h4⟩, l1⟩
  · go_wp2_with (go_at_call 27; refine (listB_no _ _ _ p _).mono ?_; rintro e w' ⟨rfl, rfl⟩)
    go_ret2
    exact ⟨.inl ⟨ho, rfl⟩, l1⟩
  · have H := Lib.hid (show PutsB (putL t l) w (.returned (.tuple #[.slice B b.length cb, .bool true])) w1 from ⟨.inr ⟨b, B, cb, ho, rfl, h1, h2, h3, h4⟩, l1⟩)
    clear ho h1 h2 h3 h4 l1
    go_wp2_with (go_at_call 27; refine (listB_yes _ _ _ _).mono ?_; rintro e w' ⟨rfl, rfl⟩)
    go_ret2
    exact H.out
end Go.Proofs.YtifejanbgobngaaDoor
