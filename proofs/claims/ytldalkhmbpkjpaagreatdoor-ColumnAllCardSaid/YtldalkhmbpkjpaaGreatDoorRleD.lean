
import Derived.Test.YtldalkhmbpkjpaaGreatDoorPlainMath
import Derived.Test.YtldalkhmbpkjpaaGreatDoorRCmp
import Derived.Test.YtldalkhmbpkjpaaGreatDoorCell
import Derived.Deep.RegionHeld3
import Derived.Test.YtldalkhmbpkjpaaGreatDoorCellG
import Derived.Deep.RegionLaw
import Derived.Maps.AppendAt
/- Walks of package rle: run, write, Put. -/

namespace Go.Proofs.YtldalkhmbpkjpaaGreatDoor
open Go.RowKit
set_option linter.unusedVariables false

theorem ok_cmp {t : Int} (ht : 1 ≤ t ∧ t ≤ 4) {l : List Val3} (ho : OkL t l) {x y : Val3} (hx : x ∈ l) (hy : y ∈ l) : cmpV x.1 x.2.1 x.2.2 y.1 y.2.1 y.2.2 = 0 ↔ y = x := by
  obtain ⟨t1, i, s⟩ := x
  obtain ⟨t2, i', s'⟩ := y
  obtain ⟨h1, m1⟩ := ho _ hx
  obtain ⟨h2, m2⟩ := ho _ hy
  dsimp only at h1 h2 m1 m2 ⊢
  subst h1
  subst h2
  rw [cmpV_ok ht m1 m2]
  constructor
  · intro e; injection e with e1 e2; rw [e1, e2]
  · intro e; injection e with _ e; injection e with e1 e2; rw [e1, e2]

set_option maxRecDepth 100000 in
set_option maxHeartbeats 2000000 in
theorem rleRun_any (t : Int) (ht : 1 ≤ t ∧ t ≤ 4) (A : Option Addr) (c m : Nat) (l : List Val3) (x : Val3) (r : List Val3) (w : World) (he : l = x :: r) (hm : m = l.length) (hl : m ≤ 2000) (hr : Has w A (fl l)) (ho : OkL t l) :
    Calls Tryz.prog 87 #[.slice A m c] w fun e w' => e = .returned (.int .i64 ((runX x r + 1 : Nat) : Int)) ∧ Later w w' := by
  have hrl := runX_le x r
  have hml : m = r.length + 1 := by rw [hm, he]; rfl
  have HE := Lib.hid he
  have HM := Lib.hid hm
  have HML := Lib.hid hml
  obtain ⟨R, hR⟩ : ∃ R, R = runX x r := ⟨_, rfl⟩
  rw [← hR] at hrl ⊢
  have HR := Lib.hid hR
  have HHAS := Lib.hid hr
  have HOK := Lib.hid ho
  have hRm : R + 1 ≤ m := by omega
  clear hr ho he hm hR hml hrl
  go_enter Tryz.func87, Tryz.ntmps87
  go_wp2_with fail
  go_loopw [3] (fun iv wr => ∃ n : Nat, iv = .int .i64 n ∧ 1 ≤ n ∧ n ≤ R + 1 ∧ Later w wr) (fun iv _ => m - (intOf iv).toNat)
  case atStart => exact ⟨1, rfl, by omega, by omega, Later.refl _⟩
  case round =>
    obtain ⟨n, rfl, hn1, hnR, lat⟩ := hrel
    by_cases hlt : n < m
    · have hpos : 0 < l.length := by have := HM.out; omega
      have hnl : n < l.length := by have := HM.out; omega
      obtain ⟨b, off, hA, c0, c1, c2⟩ := (HHAS.out.later lat).val3 0 hpos
      obtain ⟨b', off', hA', d0, d1, d2⟩ := (HHAS.out.later lat).val3 n hnl
      subst hA
      obtain ⟨rfl, rfl⟩ : b = b' ∧ off = off' := by injection hA' with h; injection h with h1 h2; exact ⟨h1, h2⟩
      clear hA'
      have hx0 : l[0] = x := by have := HE.out; subst this; rfl
      have HZ := Lib.hid (ok_cmp ht HOK.out (List.getElem_mem hpos) (List.getElem_mem hnl))
      have HSTEP := Lib.hid (show l[n] = x ↔ n - 1 < R from by
        have e1 := HE.out
        have e2 := HR.out
        subst e1
        have h := runX_step (x := x) (l := r) (k := n - 1) (by omega) (by have := HML.out; omega)
        rw [← e2] at h
        rw [← h]
        have : (x :: r)[n] = r[n - 1]'(by have := HML.out; omega) := by
          obtain ⟨k, rfl⟩ : ∃ k, n = k + 1 := ⟨n - 1, by omega⟩
          rfl
        rw [this])
      rw [hx0] at c0 c1 c2 HZ
      have HCMP := Lib.hid (fun w' => valCmp_any x.1 x.2.1 x.2.2 l[n].1 l[n].2.1 l[n].2.2 w')
      rw [Nat.zero_mul, Nat.add_zero] at c0 c1 c2
      generalize l[n] = y at d0 d1 d2 HZ HSTEP HCMP
      obtain ⟨tx, ix, sx⟩ := x
      obtain ⟨ty, iy, sy⟩ := y
      dsimp only at c0 c1 c2 d0 d1 d2 HZ HCMP
      obtain ⟨z, hz⟩ : ∃ z, z = cmpV tx ix sx ty iy sy := ⟨_, rfl⟩
      rw [← hz] at HZ
      have HCMP := Lib.hid (fun w' => (HCMP.out w').mono fun e w'' (h : TellsInt _ _ _ _) => (show e = .returned (.int .i64 z) ∧ Later w' w'' from by rw [hz]; exact h))
      have e0 : CellIs wr ⟨b, off, none⟩ (.int .i64 tx) := c0
      have e1 : CellIs wr ⟨b, off + 1, none⟩ (.int .i64 ix) := c1
      have e2 : CellIs wr ⟨b, off + 2, none⟩ (.string sx) := c2
      have g0 : CellIs wr ⟨b, off + n * 3, none⟩ (.int .i64 ty) := d0
      have g1 : CellIs wr ⟨b, off + n * 3 + 1, none⟩ (.int .i64 iy) := d1
      have g2 : CellIs wr ⟨b, off + n * 3 + 2, none⟩ (.string sy) := d2
      have LAT := Lib.hid lat
      have hm0 : 0 < m := by omega
      have hd : decide ((n : Int) < (m : Int)) = true := by simp; omega
      have hi1 : (0 : Int) ≤ (n : Int) := by omega
      have hi2 : (n : Int) < (m : Int) := by omega
      have hi3 : (0 : Int) < (m : Int) := by omega
      clear hz hx0 lat c0 c1 c2 d0 d1 d2
      have e0 := e0.drew
      have e1 := e1.drew
      have e2 := e2.drew
      have g0 := g0.drew
      have g1 := g1.drew
      have g2 := g2.drew
      have lz := (Later.refl wr).drew
      by_cases hy : n - 1 < R
      · have hz0 : z = 0 := HZ.out.2 (HSTEP.out.2 hy)
        subst hz0
        go_wp2_with fail
        first
          | go_region_held3 (fun w' => w'.cell? ⟨b, off, none⟩ = some (.int .i64 tx) ∧ w'.cell? ⟨b, off + 1, none⟩ = some (.int .i64 ix) ∧ w'.cell? ⟨b, off + 2, none⟩ = some (.string sx) ∧ w'.cell? ⟨b, off + n * 3, none⟩ = some (.int .i64 ty) ∧ w'.cell? ⟨b, off + n * 3 + 1, none⟩ = some (.int .i64 iy) ∧ w'.cell? ⟨b, off + n * 3 + 2, none⟩ = some (.string sy)) (exact ⟨e0.out, e1.out, e2.out, g0.out, g1.out, g2.out⟩) (first | (go_at_call 102; refine (HCMP.out _).mono ?_; rintro e wX ⟨rfl, lX⟩; have lz := lz.trans lX; have e0 := e0.later lX; have e1 := e1.later lX; have e2 := e2.later lX; have g0 := g0.later lX; have g1 := g1.later lX; have g2 := g2.later lX; clear lX))
          | fail "no walk"
        all_goals go_wp2_with fail
        all_goals go_roundw
        case rel => exact ⟨n + 1, by go_num, by omega, by omega, LAT.out.trans lz⟩
        case measure => simp [intOf]; omega
      · have hz0 : ¬ z = 0 := fun h => hy (HSTEP.out.1 (HZ.out.1 h))
        have hzb : (z == 0) = false := by rw [beq_eq_false_iff_ne]; exact hz0
        have hne := Lib.hid (show n = R + 1 by omega)
        clear hz0
        go_wp2_with fail
        first
          | go_region_held3 (fun w' => w'.cell? ⟨b, off, none⟩ = some (.int .i64 tx) ∧ w'.cell? ⟨b, off + 1, none⟩ = some (.int .i64 ix) ∧ w'.cell? ⟨b, off + 2, none⟩ = some (.string sx) ∧ w'.cell? ⟨b, off + n * 3, none⟩ = some (.int .i64 ty) ∧ w'.cell? ⟨b, off + n * 3 + 1, none⟩ = some (.int .i64 iy) ∧ w'.cell? ⟨b, off + n * 3 + 2, none⟩ = some (.string sy)) (exact ⟨e0.out, e1.out, e2.out, g0.out, g1.out, g2.out⟩) (first | (go_at_call 102; refine (HCMP.out _).mono ?_; rintro e wX ⟨rfl, lX⟩; have lz := lz.trans lX; have e0 := e0.later lX; have e1 := e1.later lX; have e2 := e2.later lX; have g0 := g0.later lX; have g1 := g1.later lX; have g2 := g2.later lX; clear lX))
          | fail "no walk"
        all_goals go_wp2_with fail
        all_goals go_ret
        exact ⟨by rw [← hne.out]; rfl, LAT.out.trans lz⟩
    · have hne := Lib.hid (show n = R + 1 by omega)
      have LAT := Lib.hid lat
      have lz := (Later.refl wr).drew
      have hd : decide ((n : Int) < (m : Int)) = false := by simp; omega
      clear lat
      go_wp2_with fail
      go_quiet (fail)
      go_wp2_with fail
      go_ret
      exact ⟨by rw [← hne.out]; rfl, LAT.out.drewN _⟩
end Go.Proofs.YtldalkhmbpkjpaaGreatDoor

/- Walks of package rle: write, Put. -/

namespace Go.Proofs.YtldalkhmbpkjpaaGreatDoor
open Go.RowKit
set_option linter.unusedVariables false

def WInv (t : Int) (l : List Val3) (w : World) (bv lv : Value) (wr : World) : Prop :=
  ∃ (B : Option Addr) (cb : Nat) (pre : List Nat) (L : Option Addr) (cl : Nat) (rest : List Val3), bv = .slice B pre.length cb ∧ lv = .slice L rest.length cl ∧ wr.ownsRow w.heap.size 5 1 (.slice B pre.length cb) pre.length (ints .u8 pre) ∧ (B = none → cb = 0) ∧ pre ++ rleB rest = rleB l ∧ OkL t rest ∧ All64 rest ∧ Has w L (fl rest) ∧ rest.length ≤ cl ∧ cl ≤ 9223372036854775807 ∧ rest.length ≤ l.length ∧ Later w wr
theorem WInv.mk {t : Int} {l : List Val3} {w wr : World} (B : Option Addr) (cb nb : Nat) (pre : List Nat) (L : Option Addr) (cl m : Nat) (rest : List Val3) (hn : nb = pre.length) (hm : m = rest.length) (h1 : wr.ownsRow w.heap.size 5 1 (.slice B nb cb) nb (ints .u8 pre)) (h2 : B = none → cb = 0) (h3 : pre ++ rleB rest = rleB l) (h4 : OkL t rest) (h5 : All64 rest) (h6 : Has w L (fl rest)) (h7 : rest.length ≤ cl) (h8 : cl ≤ 9223372036854775807) (h9 : rest.length ≤ l.length) (h10 : Later w wr) : WInv t l w (.slice B nb cb) (.slice L m cl) wr := by
  subst hn hm
  exact ⟨B, cb, pre, L, cl, rest, rfl, rfl, h1, h2, h3, h4, h5, h6, h7, h8, h9, h10⟩
def lenV : Value → Nat
  | .slice _ n _ => n
  | _ => 0

set_option maxRecDepth 100000 in
set_option maxHeartbeats 4000000 in
theorem rleWrite_yes (t : Int) (A : Option Addr) (c : Nat) (l : List Val3) (w : World) (hs : S6 w) (ht : 1 ≤ t ∧ t ≤ 4) (hl : l.length ≤ 2000) (hr : Has w A (fl l)) (ho : OkL t l) (h64 : All64 l) (hlc : l.length ≤ c) (hcm : c ≤ 9223372036854775807) :
    Calls Tryz.prog 71 #[.int .i64 t, .slice A l.length c] w (WritesB (some (rleB l)) w) := by
  obtain ⟨a0, a2, a3, a4, S⟩ := hs.sn
  have HA := Lib.hid (all_yes t A c l a0 a2 a3 a4 w S ht (by omega) hr ho)
  have HT := Lib.hid ht
  have HTOT := Lib.hid (rleB_le ho)
  clear S hs ht
  go_enter Tryz.func71, Tryz.ntmps71
  go_wp2_with fail
  refine HA.out.mono ?_
  rintro e w1 ⟨rfl, l1⟩
  have L1 := Lib.hid l1
  clear l1 HA
  go_wp2_with fail
  go_loopw [7, 1] (fun bv lv wr => WInv t l w bv lv wr) (fun _ lv _ => lenV lv)
  case atStart => exact WInv.mk none 0 0 [] A c _ l rfl rfl (World.ownsRow_nil _ _ _ _) (fun _ => rfl) (by simp) ho h64 hr hlc hcm (Nat.le_refl _) L1.out
  case round =>
    obtain ⟨B, cb, pre, L, cl, rest, rfl, rfl, hown, hnil, hcat, hok, h64r, hhas, hrc, hclm, hrl, lat⟩ := hrel
    clear hr ho h64 hlc hcm L1
    obtain ⟨n, hn⟩ : ∃ n, n = pre.length := ⟨_, rfl⟩
    rw [← hn] at hown ⊢
    match rest, hcat, hok, h64r, hhas, hrc, hrl with
    | [], hcat, hok, h64r, hhas, hrc, hrl =>
      rw [rleB_nil, List.append_nil] at hcat
      have HR := Lib.hid (Has.own hown)
      have H1 := Lib.hid (own_cap hown)
      have H2 := Lib.hid (own_capmax hown)
      have H3 := Lib.hid hnil
      have H4 := Lib.hid lat
      have HC := Lib.hid hcat
      have HN := Lib.hid hn
      clear hown hnil lat hcat hhas hn
      go_wp2_with fail
      go_ret2
      refine ⟨.inr ⟨pre, B, cb, by rw [HC.out], ?_, HR.out, by rw [← HN.out]; exact H1.out, H2.out, H3.out⟩, H4.out⟩
      rw [← HN.out]
      rfl
    | x :: r, hcat, hok, h64r, hhas, hrc, hrl =>
      obtain ⟨m, hm⟩ : ∃ m, m = (x :: r).length := ⟨_, rfl⟩
      rw [← hm] at hrc hrl ⊢
      have hmr : m = r.length + 1 := hm
      have HRX := Lib.hid (runX_le x r)
      obtain ⟨K, hK⟩ : ∃ K, K = runX x r + 1 := ⟨_, rfl⟩
      have hKm : K ≤ m := by have := HRX.out; omega
      have hK1 : 1 ≤ K := by omega
      have HRUN := Lib.hid ((rleRun_any t HT.out L cl m (x :: r) x r wr rfl hm (by omega) (hhas.later lat) hok).mono fun e w' h => (show e = .returned (.int .i64 (K : Int)) ∧ Later wr w' from by rw [hK]; exact h))
      have HCAT := Lib.hid (show (pre ++ putNum K ++ oneB x.1 x.2.1 x.2.2) ++ rleB ((x :: r).drop K) = rleB l by
        rw [← hcat, rleB_cons, hK, List.drop_succ_cons, List.append_assoc, List.append_assoc])
      have HNL := Lib.hid (show n ≤ 62000 by
        have h1 := congrArg List.length hcat
        have h2 := HTOT.out
        rw [List.length_append] at h1
        omega)
      obtain ⟨b, off, hadr, c0, c1, c2⟩ := hhas.val3 0 (by simp)
      rw [Nat.zero_mul, Nat.add_zero] at c0 c1 c2
      obtain ⟨hx1, hx2⟩ := hok x (List.mem_cons_self ..)
      have HIX := Lib.hid (h64r x (List.mem_cons_self ..))
      have HOKD := Lib.hid (show OkL t ((x :: r).drop K) from fun y hy => hok y (List.mem_of_mem_drop hy))
      have H64D := Lib.hid (show All64 ((x :: r).drop K) from fun y hy => h64r y (List.mem_of_mem_drop hy))
      have HHAS := Lib.hid hhas
      have hdl : ((x :: r).drop K).length = m - K := by rw [List.length_drop, ← hm]
      have HDR := Lib.hid (show fl ((x :: r).drop K) = (fl (x :: r)).drop (K * 3) from fl_drop _ _)
      generalize (x :: r).drop K = rd at HCAT HOKD H64D hdl HDR
      obtain ⟨tx, ix, sx⟩ := x
      dsimp only at hx1 hx2 HIX HCAT
      simp only [List.getElem_cons_zero] at c0 c1 c2
      subst hx1
      have HMX := Lib.hid hx2
      subst hadr
      have CX0 := Lib.hid (show CellIs w ⟨b, off, none⟩ (.int .i64 tx) from c0)
      have CX1 := Lib.hid (show CellIs w ⟨b, off + 1, none⟩ (.int .i64 ix) from c1)
      have CX2 := Lib.hid (show CellIs w ⟨b, off + 2, none⟩ (.string sx) from c2)
      have OWN := Lib.hid hown
      have LAT := Lib.hid lat
      have HN := Lib.hid hn
      have HFD := Lib.hid (show Has w (some ⟨b, off + K * 3, none⟩) (fl rd) from by rw [HDR.out]; exact HHAS.out.drop (K * 3))
      have hKw : IntKind.u64.wrap (K : Int) = (K : Int) := by rw [IntKind.wrap_u64]; omega
      have hi1 : (0 : Int) ≤ (K : Int) := by omega
      have hi2 : (K : Int) ≤ (m : Int) := by omega
      have hi3 : (m : Int) ≤ (cl : Int) := by omega
      have hmpos : (0 : Int) < (m : Int) := by omega
      have HFIN := Lib.hid (fun (A6 : Option Addr) (c6 : Nat) (w6 : World) (o6 : w6.ownsRow w.heap.size 5 1 (.slice A6 (n + (putNum K).length + (oneB tx ix sx).length) c6) (n + (putNum K).length + (oneB tx ix sx).length) (ints .u8 pre ++ ints .u8 (putNum K) ++ ints .u8 (oneB tx ix sx))) (n6 : A6 = none → c6 = 0) (L6 : Later w w6) (L' : Option Addr) (cl' m' : Nat) (h1 : Has w L' (fl rd)) (h2 : rd.length ≤ cl') (h3 : cl' ≤ 9223372036854775807) (h4 : m' = rd.length) =>
        (WInv.mk A6 c6 _ (pre ++ putNum K ++ oneB tx ix sx) L' cl' m' rd (by rw [List.length_append, List.length_append, HN.out]) h4 (by rw [ints_snoc, ints_snoc]; exact o6) n6 HCAT.out HOKD.out H64D.out h1 h2 h3 (by omega) L6 : WInv tx l w (.slice A6 (n + (putNum K).length + (oneB tx ix sx).length) c6) (.slice L' m' cl') w6))
      clear hown hnil lat hcat hok h64r hhas hn hm hmr hK hx2 c0 c1 c2
      by_cases hck : cl = K
      · have h1 : K = cl := hck.symm
        subst h1
        have h2 : K = m := by omega
        subst h2
        have hrd0 : rd = [] := List.eq_nil_of_length_eq_zero (by omega)
        clear hck
        have HF2 := Lib.hid (fun A6 c6 w6 o6 n6 L6 L' => HFIN.out A6 c6 w6 o6 n6 L6 L' 0 0 (by rw [hrd0]; exact Has.nil_) (by rw [hrd0]; exact Nat.le_refl _) (by decide) (by rw [hrd0]; rfl))
        clear hrd0 HFIN
        go_wp2_with (first
          | (go_at_call 87; refine (HRUN.out).mono ?_; rintro e w2 ⟨rfl, l2⟩; have L2 := Lib.hid (LAT.out.trans l2); have O2 := Lib.hid (own_later OWN.out l2); clear l2)
          | (go_at_call 88; refine (put_makes K (by omega) _).mono ?_; intro e w3 h; obtain ⟨P3, p3, rfl, q3, b3, m3, n3, l3⟩ := h.gives; have Q3 := Lib.hid q3; have N3 := Lib.hid n3; have L3 := Lib.hid (L2.out.trans l3); have O3 := Lib.hid (own_later O2.out l3); clear h q3 b3 m3 n3 l3)
          | (at_builtin; refine wpList_append_rd _ rfl (.tmp 20) (.tmp 23) 22 rfl w.heap.size 5 (.int .u8 0) 1 Tryz.underlying22 info_u8 rfl _ n (ints .u8 pre) rfl O3.out _ P3 (putNum K).length p3 (ints .u8 (putNum K)) rfl Q3.out ?_ N3.out (ints_one _ _) ?_ ?_ ?_ ?_; (rw [ints_length]); (have h1 := HNL.out; have h2 := putNum_le K; unfold maxLen; omega); (have h1 := HNL.out; have h2 := putNum_le K; omega); (exact L3.out.size); intro A4 c4 w4 o4 g4 b4 n4; have O4 := Lib.hid o4; have L4 := Lib.hid (Later.of (L3.out.below.trans b4)); have e0 := (CX0.out.later L4.out).out; have e1 := (CX1.out.later L4.out).out; have e2 := (CX2.out.later L4.out).out; clear o4 g4 b4 n4)
          | (go_at_call 89; refine (cellPut_any tx ix sx _ HT.out HMX.out HIX.out).mono ?_; rintro e w5 ⟨P5, p5, rfl, q5, b5, m5, n5, l5⟩; have Q5 := Lib.hid q5; have N5 := Lib.hid n5; have L5 := Lib.hid (L4.out.trans l5); have O5 := Lib.hid (own_later O4.out l5); clear q5 b5 m5 n5 l5)
          | (at_builtin; refine wpList_append_rd _ rfl (.tmp 25) (.tmp 29) 22 rfl w.heap.size 5 (.int .u8 0) 1 Tryz.underlying22 info_u8 rfl _ (n + (putNum K).length) (ints .u8 pre ++ ints .u8 (putNum K)) rfl O5.out _ P5 (oneB tx ix sx).length p5 (ints .u8 (oneB tx ix sx)) rfl Q5.out ?_ N5.out (ints_one _ _) ?_ ?_ ?_ ?_; (rw [ints_length]); (have h1 := HNL.out; have h2 := putNum_le K; have h3 := oneB_le HMX.out; unfold maxLen; omega); (have h1 := HNL.out; have h2 := putNum_le K; have h3 := oneB_le HMX.out; omega); (exact L5.out.size); intro A6 c6 w6 o6 g6 b6 n6; have O6 := Lib.hid o6; have N6 := Lib.hid n6; have L6 := Lib.hid (Later.of (L5.out.below.trans b6)); clear o6 g6 b6 n6))
        go_wp2_with fail
        go_roundw
        case rel => exact HF2.out _ _ _ O6.out N6.out L6.out _
        case measure => simp [lenV]; omega
      · have HF2 := Lib.hid (fun A6 c6 w6 o6 n6 L6 => HFIN.out A6 c6 w6 o6 n6 L6 _ (cl - K) (m - K) HFD.out (by omega) (by omega) hdl.symm)
        clear HFIN
        go_wp2_with (first
          | (go_at_call 87; refine (HRUN.out).mono ?_; rintro e w2 ⟨rfl, l2⟩; have L2 := Lib.hid (LAT.out.trans l2); have O2 := Lib.hid (own_later OWN.out l2); clear l2)
          | (go_at_call 88; refine (put_makes K (by omega) _).mono ?_; intro e w3 h; obtain ⟨P3, p3, rfl, q3, b3, m3, n3, l3⟩ := h.gives; have Q3 := Lib.hid q3; have N3 := Lib.hid n3; have L3 := Lib.hid (L2.out.trans l3); have O3 := Lib.hid (own_later O2.out l3); clear h q3 b3 m3 n3 l3)
          | (at_builtin; refine wpList_append_rd _ rfl (.tmp 20) (.tmp 23) 22 rfl w.heap.size 5 (.int .u8 0) 1 Tryz.underlying22 info_u8 rfl _ n (ints .u8 pre) rfl O3.out _ P3 (putNum K).length p3 (ints .u8 (putNum K)) rfl Q3.out ?_ N3.out (ints_one _ _) ?_ ?_ ?_ ?_; (rw [ints_length]); (have h1 := HNL.out; have h2 := putNum_le K; unfold maxLen; omega); (have h1 := HNL.out; have h2 := putNum_le K; omega); (exact L3.out.size); intro A4 c4 w4 o4 g4 b4 n4; have O4 := Lib.hid o4; have L4 := Lib.hid (Later.of (L3.out.below.trans b4)); have e0 := (CX0.out.later L4.out).out; have e1 := (CX1.out.later L4.out).out; have e2 := (CX2.out.later L4.out).out; clear o4 g4 b4 n4)
          | (go_at_call 89; refine (cellPut_any tx ix sx _ HT.out HMX.out HIX.out).mono ?_; rintro e w5 ⟨P5, p5, rfl, q5, b5, m5, n5, l5⟩; have Q5 := Lib.hid q5; have N5 := Lib.hid n5; have L5 := Lib.hid (L4.out.trans l5); have O5 := Lib.hid (own_later O4.out l5); clear q5 b5 m5 n5 l5)
          | (at_builtin; refine wpList_append_rd _ rfl (.tmp 25) (.tmp 29) 22 rfl w.heap.size 5 (.int .u8 0) 1 Tryz.underlying22 info_u8 rfl _ (n + (putNum K).length) (ints .u8 pre ++ ints .u8 (putNum K)) rfl O5.out _ P5 (oneB tx ix sx).length p5 (ints .u8 (oneB tx ix sx)) rfl Q5.out ?_ N5.out (ints_one _ _) ?_ ?_ ?_ ?_; (rw [ints_length]); (have h1 := HNL.out; have h2 := putNum_le K; have h3 := oneB_le HMX.out; unfold maxLen; omega); (have h1 := HNL.out; have h2 := putNum_le K; have h3 := oneB_le HMX.out; omega); (exact L5.out.size); intro A6 c6 w6 o6 g6 b6 n6; have O6 := Lib.hid o6; have N6 := Lib.hid n6; have L6 := Lib.hid (Later.of (L5.out.below.trans b6)); clear o6 g6 b6 n6))
        go_wp2_with fail
        go_roundw
        case rel => exact HF2.out _ _ _ O6.out N6.out L6.out
        case measure => simp [lenV]; omega

set_option maxRecDepth 100000 in
theorem rleWrite_no (t : Int) (A : Option Addr) (c : Nat) (l : List Val3) (w : World) (hs : S6 w) (hl : l.length ≤ 2000) (hr : Has w A (fl l)) (ho : ¬ ((1 ≤ t ∧ t ≤ 4) ∧ OkL t l)) :
    Calls Tryz.prog 71 #[.int .i64 t, .slice A l.length c] w (WritesB none w) := by
  have hif : Tryz.prog.isIface 40 = true := by kernel_rfl
  obtain ⟨a0, a2, a3, a4, S⟩ := hs.sn
  have HA := Lib.hid (all_no t A c l a0 a2 a3 a4 w S (by omega) hr ho)
  clear S hs ho hr
  go_enter Tryz.func71, Tryz.ntmps71
  go_wp2_with fail
  refine HA.out.mono ?_
  rintro e w1 ⟨v, rfl, ⟨p, rfl⟩, l1⟩
  have heq := run_eql_iface_nil (P := Tryz.prog) (w := w1) 40 hif 82 (.pointer (some p))
  go_wp2_with fail
  go_ret2
  exact ⟨.inl ⟨rfl, p, rfl⟩, l1⟩

set_option maxRecDepth 100000 in
theorem rlePut_any (t : Int) (A : Option Addr) (c : Nat) (l : List Val3) (w : World) (hs : S6 w) (hl : l.length ≤ 2000) (hr : Has w A (fl l)) (h64 : All64 l) (hlc : l.length ≤ c) (hcm : c ≤ 9223372036854775807) :
    Calls Tryz.prog 51 #[.int .i64 t, .slice A l.length c] w (PutsB (putL t l) w) := by
  have HC := Lib.hid (show Calls Tryz.prog 71 #[.int .i64 t, .slice A l.length c] w (WritesB (putL t l) w) from by
    unfold putL
    by_cases h : (1 ≤ t ∧ t ≤ 4) ∧ OkL t l
    · rw [if_pos h]; exact rleWrite_yes t A c l w hs h.1 hl hr h.2 h64 hlc hcm
    · rw [if_neg h]; exact rleWrite_no t A c l w hs hl hr h)
  clear hs hr h64 hl hlc hcm
  go_enter Tryz.func51, Tryz.ntmps51
  go_wp2_with fail
  refine HC.out.mono ?_
  rintro e w1 ⟨⟨ho, p, rfl⟩ | ⟨b, B, cb, ho, rfl, h1, h2, h3, h4⟩, l1⟩
  · go_wp2_with (go_at_call 17; refine (listB_no _ _ _ p _).mono ?_; rintro e w' ⟨rfl, rfl⟩)
    go_ret2
    exact ⟨.inl ⟨ho, rfl⟩, l1⟩
  · have H := Lib.hid (show PutsB (putL t l) w (.returned (.tuple #[.slice B b.length cb, .bool true])) w1 from ⟨.inr ⟨b, B, cb, ho, rfl, h1, h2, h3, h4⟩, l1⟩)
    clear ho h1 h2 h3 h4 l1
    go_wp2_with (go_at_call 17; refine (listB_yes _ _ _ _).mono ?_; rintro e w' ⟨rfl, rfl⟩)
    go_ret2
    exact H.out
end Go.Proofs.YtldalkhmbpkjpaaGreatDoor

/- The walk of rle.readRun. -/

namespace Go.Proofs.YtldalkhmbpkjpaaGreatDoor
open Go.RowKit
set_option linter.unusedVariables false

/-- The run that bytes begin with: how many, the number, the text's bytes, how many bytes. -/
def runS (t : Int) (most : Nat) (b : List Nat) : Option (Nat × Int × List Nat × Nat) :=
  match takeNum b with
  | some (u, k) => if 1 ≤ u ∧ u ≤ most then (match takeC t (b.drop k) with
      | some (i, s, j) => some (u, i, s, k + j)
      | none => none) else none
  | none => none
def RunPost (o : Option (Nat × Int × List Nat × Nat)) (t : Int) (w : World) (e : Ending) (w' : World) : Prop :=
  ((o = none ∧ ∃ (t' i' c' z' : Int) (s' : ByteArray) (p : Addr), e = .returned (.tuple #[vagg t' i' s', .int .i64 c', .int .i64 z', .iface 82 (.pointer (some p))])) ∨
    ∃ u i s z, o = some (u, i, s, z) ∧ e = .returned (.tuple #[vagg t i (bstr s), .int .i64 (u : Int), .int .i64 (z : Int), .nilIface])) ∧ Later w w'
theorem RunPost.no {o : Option (Nat × Int × List Nat × Nat)} {t : Int} {w w' : World} (h : o = none) (t' i' c' z' : Int) (s' : ByteArray) {p : Addr} (l : Later w w') : RunPost o t w (.returned (.tuple #[vagg t' i' s', .int .i64 c', .int .i64 z', .iface 82 (.pointer (some p))])) w' := ⟨.inl ⟨h, t', i', c', z', s', p, rfl⟩, l⟩
theorem RunPost.yes {o : Option (Nat × Int × List Nat × Nat)} {t : Int} {w w' : World} {u z : Nat} {i : Int} {s : List Nat} (h : o = some (u, i, s, z)) (l : Later w w') : RunPost o t w (.returned (.tuple #[vagg t i (bstr s), .int .i64 (u : Int), .int .i64 (z : Int), .nilIface])) w' := ⟨.inr ⟨u, i, s, z, h, rfl⟩, l⟩
theorem runS_none {t : Int} {m : Nat} {b : List Nat} (h : takeNum b = none) : runS t m b = none := by unfold runS; rw [h]
theorem runS_not {t : Int} {m : Nat} {b : List Nat} {u k : Nat} (h : takeNum b = some (u, k)) (hu : ¬ (1 ≤ u ∧ u ≤ m)) : runS t m b = none := by unfold runS; rw [h]; simp only; rw [if_neg hu]
theorem runS_no {t : Int} {m : Nat} {b : List Nat} {u k : Nat} (h : takeNum b = some (u, k)) (hC : takeC t (b.drop k) = none) : runS t m b = none := by
  unfold runS; rw [h]; simp only; rw [hC]; split <;> rfl
theorem runS_yes {t : Int} {m : Nat} {b : List Nat} {u k : Nat} {i : Int} {s : List Nat} {j : Nat} (h : takeNum b = some (u, k)) (hu : 1 ≤ u ∧ u ≤ m) (hC : takeC t (b.drop k) = some (i, s, j)) : runS t m b = some (u, i, s, k + j) := by
  unfold runS; rw [h]; simp only; rw [if_pos hu, hC]
theorem cellTake_n (t : Int) (ht : 1 ≤ t ∧ t ≤ 4) (A : Option Addr) (m c : Nat) (b : List Nat) (w : World) (hm : m = b.length) (hs : S6 w) (hr : Has w A (ints .u8 b)) (h256 : ∀ x ∈ b, x < 256) (hb : b.length ≤ 1000000) (hbc : b.length ≤ c) (hc : c ≤ 9223372036854775807) :
    Calls Tryz.prog 108 #[.int .i64 t, .slice A m c] w (TakesC (takeC t b) t w) := by
  subst hm; exact cellTake_any t ht A c b w hs hr h256 hb hbc hc

set_option maxRecDepth 100000 in
set_option maxHeartbeats 1000000 in
theorem readRun_any (t : Int) (ht : 1 ≤ t ∧ t ≤ 4) (most : Nat) (hmost : most ≤ 1000) (A : Option Addr) (c : Nat) (b : List Nat) (w : World) (hs : S6 w) (hr : Has w A (ints .u8 b)) (h256 : ∀ x ∈ b, x < 256) (hb : b.length ≤ 1000000) (hbc : b.length ≤ c) (hc : c ≤ 9223372036854775807) :
    Calls Tryz.prog 101 #[.int .i64 t, .int .i64 most, .slice A b.length c] w (RunPost (runS t most b) t w) := by
  have HN0 := Lib.hid (runS_none (t := t) (m := most) (b := b))
  have HN1 := Lib.hid (fun u k => runS_not (t := t) (m := most) (b := b) (u := u) (k := k))
  have HN2 := Lib.hid (fun u k => runS_no (t := t) (m := most) (b := b) (u := u) (k := k))
  have HY0 := Lib.hid (fun u k i s j => runS_yes (t := t) (m := most) (b := b) (u := u) (k := k) (i := i) (s := s) (j := j))
  obtain ⟨o, ho⟩ : ∃ o, o = runS t most b := ⟨_, rfl⟩
  rw [← ho] at HN0 HN1 HN2 HY0 ⊢
  obtain ⟨w1, hw1⟩ : ∃ w1, w1 = w.alloc (.cells #[.int .i64 0, .int .i64 0, .string ⟨#[]⟩] 26) := ⟨_, rfl⟩
  have L1 : Later w w1 := hw1 ▸ Later.new _ _
  have R1 : Blk w1 w.heap.size #[.int .i64 0, .int .i64 0, .string ⟨#[]⟩] 26 := hw1 ▸ Blk.new w _ _ _ rfl
  have S1 := hs.later L1
  obtain ⟨a, hn⟩ := S1.num
  have HT := Lib.hid (take_num A b.length c b a w1 w1.heap.size rfl (hr.later L1) h256 hb hn)
  have HS := Lib.hid S1
  have HL := Lib.hid L1
  have HW := Lib.hid hw1
  have HR := Lib.hid hr
  have H256 := Lib.hid h256
  have HTT := Lib.hid ht
  obtain ⟨g, hg⟩ : ∃ g, g = w.heap.size := ⟨_, rfl⟩
  have HG := Lib.hid hg
  rw [← hg] at R1
  clear hw1 L1 hs hr ho h256 S1 hn ht
  go_enter Tryz.func101, Tryz.ntmps101
  go_wp2_with fail
  rw [← HW.out]
  refine HT.out.mono ?_
  rintro e w2 ⟨u, k, ok, hT0, rfl, b2⟩
  have l2 : Later w1 w2 := Later.of b2
  have R2 := R1.later l2
  have HL2 := Lib.hid (HL.out.trans l2)
  have HS2 := Lib.hid (HS.out.later l2)
  rw [← HG.out]
  have r0 := R2.cell 0 _ rfl
  have r1 := R2.cell 1 _ rfl
  have r2 := R2.cell 2 _ rfl
  clear hg HT HL R1 HW b2 l2 HS
  have hmw : IntKind.u64.wrap (most : Int) = (most : Int) := by rw [IntKind.wrap_u64]; omega
  rcases takeR_some hT0 with ⟨rfl, hT⟩ | ⟨rfl, hT⟩
  · obtain ⟨hu64, hk2, hk3⟩ := takeNum_is H256.out hT
    have hkb : k ≤ b.length := by rw [hk2]; exact hk3.length_le
    have hk10 : k ≤ 10 := by rw [hk2]; exact putNum_le u
    have HTN := Lib.hid hT
    have HK2 := Lib.hid hk2
    clear hT hT0 hk2 hk3
    by_cases hu : 1 ≤ u ∧ u ≤ most
    · have hd1 : decide ((u : Int) < 1) = false := by simp; omega
      have hd2 : decide ((most : Int) < (u : Int)) = false := by simp; omega
      have hq2 : ¬ most < u := by omega
      have hq1 : ¬ u < 1 := by omega
      have hq0 : ¬ u = 0 := by omega
      have huw : IntKind.i64.wrap (u : Int) = (u : Int) := IntWalk.i64_in _ ⟨by omega, by omega⟩
      have HNO2 := Lib.hid (HN2.out u k HTN.out)
      have HYES := Lib.hid (fun i s j => HY0.out u k i s j HTN.out hu)
      have D256 := Lib.hid (fun x (hx : x ∈ b.drop k) => H256.out x (List.mem_of_mem_drop hx))
      have HJ := Lib.hid (fun i s j (h : takeC t (b.drop k) = some (i, s, j)) => (show j ≤ 1000000 from by
        have := (readC_lt D256.out (takeC_read h).1).2.1
        rw [List.length_drop] at this; omega))
      have hdl : (b.drop k).length = b.length - k := List.length_drop
      have hi1 : (0 : Int) ≤ (k : Int) := by omega
      have hi2 : (k : Int) ≤ (b.length : Int) := by omega
      have hi3 : (b.length : Int) ≤ (c : Int) := by omega
      clear HN0 HN1 HN2 HY0 hu
      by_cases hck : c = k
      · have hd0 : b.drop k = [] := List.drop_of_length_le (by omega)
        have HTK := Lib.hid (cellTake_n t HTT.out A 0 0 (b.drop k) w2 (by rw [hd0]; rfl) HS2.out (by rw [hd0]; exact Has.nil_) D256.out (by rw [hd0]; decide) (by rw [hd0]; decide) (by decide))
        have hkc : k = c := hck.symm
        have hlc : b.length = c := by omega
        have HLC := Lib.hid hlc
        clear hd0 hdl hck
        subst hkc
        go_wp2_with fail
        refine HTK.out.mono ?_
        rintro e w3 ⟨⟨hC, p, rfl⟩ | ⟨i, s, j, hC, rfl⟩, l3⟩
        · have HO := Lib.hid (HNO2.out hC)
          have R3 := R2.later l3
          have HL3 := Lib.hid (HL2.out.trans l3)
          have r0 := R3.cell 0 _ rfl
          have r1 := R3.cell 1 _ rfl
          have r2 := R3.cell 2 _ rfl
          have f0 := R3.frozen 0
          have f1 := R3.frozen 1
          have f2 := R3.frozen 2
          have HR3 := Lib.hid R3
          clear hC l3 R2 R3 HL2 HTK
          go_wp2_with fail
          have R4 := three_blk HR3.out rfl (.int .i64 0) (.int .i64 0) (.string ⟨#[]⟩)
          have L4 := three_later HL3.out (show w.heap.size ≤ g by have := HG.out; omega) (.int .i64 0) (.int .i64 0) (.string ⟨#[]⟩)
          obtain ⟨w4, hw4⟩ : ∃ w4, w4 = (((w3.setCell ⟨g, 0, none⟩ (.int .i64 0)).setCell ⟨g, 1, none⟩ (.int .i64 0)).setCell ⟨g, 2, none⟩ (.string ⟨#[]⟩)) := ⟨_, rfl⟩
          rw [← hw4] at R4 L4 ⊢
          first
            | (have R5 := three_blk R4 rfl (.int .i64 0) (.int .i64 0) (.string ⟨#[]⟩)
               have L5 := three_later L4 (show w.heap.size ≤ g by have := HG.out; omega) (.int .i64 0) (.int .i64 0) (.string ⟨#[]⟩)
               obtain ⟨w5, hw5⟩ : ∃ w5, w5 = (((w4.setCell ⟨g, 0, none⟩ (.int .i64 0)).setCell ⟨g, 1, none⟩ (.int .i64 0)).setCell ⟨g, 2, none⟩ (.string ⟨#[]⟩)) := ⟨_, rfl⟩
               rw [← hw5] at R5 L5 ⊢
               have x0 := R5.cell 0 _ rfl
               have x1 := R5.cell 1 _ rfl
               have x2 := R5.cell 2 _ rfl
               refine bodyPost_ret (v := .tuple #[vagg 0 0 ⟨#[]⟩, .int .i64 u, .int .i64 (k : Int), .iface 82 (.pointer (some p))]) (by simp [results, Tryz.results101, go_sem, x0, x1, x2]) rfl ?_
               exact RunPost.no HO.out _ _ _ _ _ L5)
            | (have x0 := R4.cell 0 _ rfl
               have x1 := R4.cell 1 _ rfl
               have x2 := R4.cell 2 _ rfl
               refine bodyPost_ret (v := .tuple #[vagg 0 0 ⟨#[]⟩, .int .i64 u, .int .i64 (k : Int), .iface 82 (.pointer (some p))]) (by simp [results, Tryz.results101, go_sem, x0, x1, x2]) rfl ?_
               exact RunPost.no HO.out _ _ _ _ _ L4)
        · have HO := Lib.hid (HYES.out i s j hC)
          obtain ⟨S, hS⟩ : ∃ S, S = bstr s := ⟨_, rfl⟩
          have HSS := Lib.hid hS
          rw [← hS]
          have hjb := HJ.out i s j hC
          have R3 := R2.later l3
          have HL3 := Lib.hid (HL2.out.trans l3)
          have r0 := R3.cell 0 _ rfl
          have r1 := R3.cell 1 _ rfl
          have r2 := R3.cell 2 _ rfl
          have f0 := R3.frozen 0
          have f1 := R3.frozen 1
          have f2 := R3.frozen 2
          have HR3 := Lib.hid R3
          have HKJ := Lib.hid (show ((k + j : Nat) : Int) = (k : Int) + (j : Int) by omega)
          clear hC l3 R2 R3 HL2 HTK hS
          go_wp2_with fail
          have R4 := three_blk HR3.out rfl (.int .i64 t) (.int .i64 i) (.string S)
          have L4 := three_later HL3.out (show w.heap.size ≤ g by have := HG.out; omega) (.int .i64 t) (.int .i64 i) (.string S)
          obtain ⟨w4, hw4⟩ : ∃ w4, w4 = (((w3.setCell ⟨g, 0, none⟩ (.int .i64 t)).setCell ⟨g, 1, none⟩ (.int .i64 i)).setCell ⟨g, 2, none⟩ (.string S)) := ⟨_, rfl⟩
          rw [← hw4] at R4 L4 ⊢
          first
            | (have R5 := three_blk R4 rfl (.int .i64 t) (.int .i64 i) (.string S)
               have L5 := three_later L4 (show w.heap.size ≤ g by have := HG.out; omega) (.int .i64 t) (.int .i64 i) (.string S)
               obtain ⟨w5, hw5⟩ : ∃ w5, w5 = (((w4.setCell ⟨g, 0, none⟩ (.int .i64 t)).setCell ⟨g, 1, none⟩ (.int .i64 i)).setCell ⟨g, 2, none⟩ (.string S)) := ⟨_, rfl⟩
               rw [← hw5] at R5 L5 ⊢
               have x0 := R5.cell 0 _ rfl
               have x1 := R5.cell 1 _ rfl
               have x2 := R5.cell 2 _ rfl
               refine bodyPost_ret (v := .tuple #[vagg t i S, .int .i64 u, .int .i64 ((k : Int) + (j : Int)), .nilIface]) (by simp [results, Tryz.results101, go_sem, x0, x1, x2]) rfl ?_
               (rw [HSS.out, ← HKJ.out]; exact RunPost.yes HO.out L5))
            | (have x0 := R4.cell 0 _ rfl
               have x1 := R4.cell 1 _ rfl
               have x2 := R4.cell 2 _ rfl
               refine bodyPost_ret (v := .tuple #[vagg t i S, .int .i64 u, .int .i64 ((k : Int) + (j : Int)), .nilIface]) (by simp [results, Tryz.results101, go_sem, x0, x1, x2]) rfl ?_
               (rw [HSS.out, ← HKJ.out]; exact RunPost.yes HO.out L4))
      · rcases A with _ | ⟨bb, off, inn⟩
        · exfalso
          rcases HR.out with h | ⟨_, _, h, _⟩
          · have : b.length = 0 := by have := congrArg List.length h; rw [ints_length] at this; exact this
            have := HK2.out
            have := putNum_pos u
            omega
          · cases h
        · obtain rfl : inn = none := by
            rcases HR.out with h | ⟨_, _, h, _⟩
            · have : b.length = 0 := by have := congrArg List.length h; rw [ints_length] at this; exact this
              have := HK2.out
              have := putNum_pos u
              omega
            · injection h with h; injection h
          have HTK := Lib.hid (cellTake_n t HTT.out (some ⟨bb, off + k, none⟩) (b.length - k) (c - k) (b.drop k) w2 hdl.symm HS2.out (by have h := (HR.out.later HL2.out).drop k; rw [show (ints .u8 b).drop k = ints .u8 (b.drop k) by simp [ints, List.map_drop]] at h; exact h) D256.out (by omega) (by omega) (by omega))
          clear hdl
          go_wp2_with fail
          refine HTK.out.mono ?_
          rintro e w3 ⟨⟨hC, p, rfl⟩ | ⟨i, s, j, hC, rfl⟩, l3⟩
          · have HO := Lib.hid (HNO2.out hC)
            have R3 := R2.later l3
            have HL3 := Lib.hid (HL2.out.trans l3)
            have r0 := R3.cell 0 _ rfl
            have r1 := R3.cell 1 _ rfl
            have r2 := R3.cell 2 _ rfl
            have f0 := R3.frozen 0
            have f1 := R3.frozen 1
            have f2 := R3.frozen 2
            have HR3 := Lib.hid R3
            clear hC l3 R2 R3 HL2 HTK
            go_wp2_with fail
            have R4 := three_blk HR3.out rfl (.int .i64 0) (.int .i64 0) (.string ⟨#[]⟩)
            have L4 := three_later HL3.out (show w.heap.size ≤ g by have := HG.out; omega) (.int .i64 0) (.int .i64 0) (.string ⟨#[]⟩)
            obtain ⟨w4, hw4⟩ : ∃ w4, w4 = (((w3.setCell ⟨g, 0, none⟩ (.int .i64 0)).setCell ⟨g, 1, none⟩ (.int .i64 0)).setCell ⟨g, 2, none⟩ (.string ⟨#[]⟩)) := ⟨_, rfl⟩
            rw [← hw4] at R4 L4 ⊢
            first
              | (have R5 := three_blk R4 rfl (.int .i64 0) (.int .i64 0) (.string ⟨#[]⟩)
                 have L5 := three_later L4 (show w.heap.size ≤ g by have := HG.out; omega) (.int .i64 0) (.int .i64 0) (.string ⟨#[]⟩)
                 obtain ⟨w5, hw5⟩ : ∃ w5, w5 = (((w4.setCell ⟨g, 0, none⟩ (.int .i64 0)).setCell ⟨g, 1, none⟩ (.int .i64 0)).setCell ⟨g, 2, none⟩ (.string ⟨#[]⟩)) := ⟨_, rfl⟩
                 rw [← hw5] at R5 L5 ⊢
                 have x0 := R5.cell 0 _ rfl
                 have x1 := R5.cell 1 _ rfl
                 have x2 := R5.cell 2 _ rfl
                 refine bodyPost_ret (v := .tuple #[vagg 0 0 ⟨#[]⟩, .int .i64 u, .int .i64 (k : Int), .iface 82 (.pointer (some p))]) (by simp [results, Tryz.results101, go_sem, x0, x1, x2]) rfl ?_
                 exact RunPost.no HO.out _ _ _ _ _ L5)
              | (have x0 := R4.cell 0 _ rfl
                 have x1 := R4.cell 1 _ rfl
                 have x2 := R4.cell 2 _ rfl
                 refine bodyPost_ret (v := .tuple #[vagg 0 0 ⟨#[]⟩, .int .i64 u, .int .i64 (k : Int), .iface 82 (.pointer (some p))]) (by simp [results, Tryz.results101, go_sem, x0, x1, x2]) rfl ?_
                 exact RunPost.no HO.out _ _ _ _ _ L4)
          · have HO := Lib.hid (HYES.out i s j hC)
            obtain ⟨S, hS⟩ : ∃ S, S = bstr s := ⟨_, rfl⟩
            have HSS := Lib.hid hS
            rw [← hS]
            have hjb := HJ.out i s j hC
            have R3 := R2.later l3
            have HL3 := Lib.hid (HL2.out.trans l3)
            have r0 := R3.cell 0 _ rfl
            have r1 := R3.cell 1 _ rfl
            have r2 := R3.cell 2 _ rfl
            have f0 := R3.frozen 0
            have f1 := R3.frozen 1
            have f2 := R3.frozen 2
            have HR3 := Lib.hid R3
            have HKJ := Lib.hid (show ((k + j : Nat) : Int) = (k : Int) + (j : Int) by omega)
            clear hC l3 R2 R3 HL2 HTK hS
            go_wp2_with fail
            have R4 := three_blk HR3.out rfl (.int .i64 t) (.int .i64 i) (.string S)
            have L4 := three_later HL3.out (show w.heap.size ≤ g by have := HG.out; omega) (.int .i64 t) (.int .i64 i) (.string S)
            obtain ⟨w4, hw4⟩ : ∃ w4, w4 = (((w3.setCell ⟨g, 0, none⟩ (.int .i64 t)).setCell ⟨g, 1, none⟩ (.int .i64 i)).setCell ⟨g, 2, none⟩ (.string S)) := ⟨_, rfl⟩
            rw [← hw4] at R4 L4 ⊢
            first
              | (have R5 := three_blk R4 rfl (.int .i64 t) (.int .i64 i) (.string S)
                 have L5 := three_later L4 (show w.heap.size ≤ g by have := HG.out; omega) (.int .i64 t) (.int .i64 i) (.string S)
                 obtain ⟨w5, hw5⟩ : ∃ w5, w5 = (((w4.setCell ⟨g, 0, none⟩ (.int .i64 t)).setCell ⟨g, 1, none⟩ (.int .i64 i)).setCell ⟨g, 2, none⟩ (.string S)) := ⟨_, rfl⟩
                 rw [← hw5] at R5 L5 ⊢
                 have x0 := R5.cell 0 _ rfl
                 have x1 := R5.cell 1 _ rfl
                 have x2 := R5.cell 2 _ rfl
                 refine bodyPost_ret (v := .tuple #[vagg t i S, .int .i64 u, .int .i64 ((k : Int) + (j : Int)), .nilIface]) (by simp [results, Tryz.results101, go_sem, x0, x1, x2]) rfl ?_
                 (rw [HSS.out, ← HKJ.out]; exact RunPost.yes HO.out L5))
              | (have x0 := R4.cell 0 _ rfl
                 have x1 := R4.cell 1 _ rfl
                 have x2 := R4.cell 2 _ rfl
                 refine bodyPost_ret (v := .tuple #[vagg t i S, .int .i64 u, .int .i64 ((k : Int) + (j : Int)), .nilIface]) (by simp [results, Tryz.results101, go_sem, x0, x1, x2]) rfl ?_
                 (rw [HSS.out, ← HKJ.out]; exact RunPost.yes HO.out L4))
    · have HO := Lib.hid (HN1.out u k HTN.out hu)
      clear HN0 HN1 HN2 HY0
      by_cases hu1 : u < 1
      · have hd1 : decide ((u : Int) < 1) = true := by simp; omega
        clear hu hu1
        have R2b := R2
        have HLL := Lib.hid HL2.out
        obtain ⟨sa, hsb⟩ := HS2.out.bound
        go_wp2_with fail
        go_region_law (first
          | (go_simp; go_at_call 27; refine (at_l _ _ _ _).mono ?_; rintro e w3 ⟨q2, rfl, l3⟩; have R3 := R2b.drew.later l3; have r0 := R3.cell 0 _ rfl; have r1 := R3.cell 1 _ rfl; have r2 := R3.cell 2 _ rfl; have f0 := R3.frozen 0; have f1 := R3.frozen 1; have f2 := R3.frozen 2; have L3 := HLL.out.drew.trans l3; clear l3))
        all_goals go_wp2_with fail
        all_goals
          have R4 := three_blk R3 rfl (.int .i64 0) (.int .i64 0) (.string ⟨#[]⟩)
          have L4 := three_later L3 (show w.heap.size ≤ g by have := HG.out; omega) (.int .i64 0) (.int .i64 0) (.string ⟨#[]⟩)
          obtain ⟨w4, hw4⟩ : ∃ w4, w4 = (((w3.setCell ⟨g, 0, none⟩ (.int .i64 0)).setCell ⟨g, 1, none⟩ (.int .i64 0)).setCell ⟨g, 2, none⟩ (.string ⟨#[]⟩)) := ⟨_, rfl⟩
          rw [← hw4] at R4 L4 ⊢
          have x0 := R4.cell 0 _ rfl
          have x1 := R4.cell 1 _ rfl
          have x2 := R4.cell 2 _ rfl
          exact bodyPost_ret (v := .tuple #[vagg 0 0 ⟨#[]⟩, .int .i64 0, .int .i64 0, .iface 82 (.pointer (some q2))]) (by simp [results, Tryz.results101, go_sem, x0, x1, x2]) rfl (RunPost.no HO.out _ _ _ _ _ L4)
      · have hd1 : decide ((u : Int) < 1) = false := by simp; omega
        have hd2 : decide ((most : Int) < (u : Int)) = true := by simp; omega
        have hq2 : most < u := by omega
        have hq0 : ¬ u = 0 := by omega
        clear hu
        have R2b := R2
        have HLL := Lib.hid HL2.out
        obtain ⟨sa, hsb⟩ := HS2.out.bound
        go_wp2_with fail
        go_region_law (first
          | (go_simp; go_at_call 27; refine (at_l _ _ _ _).mono ?_; rintro e w3 ⟨q2, rfl, l3⟩; have R3 := R2b.drew.later l3; have r0 := R3.cell 0 _ rfl; have r1 := R3.cell 1 _ rfl; have r2 := R3.cell 2 _ rfl; have f0 := R3.frozen 0; have f1 := R3.frozen 1; have f2 := R3.frozen 2; have L3 := HLL.out.drew.trans l3; clear l3))
        all_goals go_wp2_with fail
        all_goals
          have R4 := three_blk R3 rfl (.int .i64 0) (.int .i64 0) (.string ⟨#[]⟩)
          have L4 := three_later L3 (show w.heap.size ≤ g by have := HG.out; omega) (.int .i64 0) (.int .i64 0) (.string ⟨#[]⟩)
          obtain ⟨w4, hw4⟩ : ∃ w4, w4 = (((w3.setCell ⟨g, 0, none⟩ (.int .i64 0)).setCell ⟨g, 1, none⟩ (.int .i64 0)).setCell ⟨g, 2, none⟩ (.string ⟨#[]⟩)) := ⟨_, rfl⟩
          rw [← hw4] at R4 L4 ⊢
          have x0 := R4.cell 0 _ rfl
          have x1 := R4.cell 1 _ rfl
          have x2 := R4.cell 2 _ rfl
          exact bodyPost_ret (v := .tuple #[vagg 0 0 ⟨#[]⟩, .int .i64 0, .int .i64 0, .iface 82 (.pointer (some q2))]) (by simp [results, Tryz.results101, go_sem, x0, x1, x2]) rfl (RunPost.no HO.out _ _ _ _ _ L4)
  · have HO := Lib.hid (HN0.out hT)
    clear hT hT0 HN0 HN1 HN2 HY0
    have R2b := R2
    have HLL := Lib.hid HL2.out
    obtain ⟨sa, hsb⟩ := HS2.out.bound
    go_wp2_with fail
    go_region_law (first
      | (go_simp; go_at_call 27; refine (at_l _ _ _ _).mono ?_; rintro e w3 ⟨q2, rfl, l3⟩; have R3 := R2b.drew.later l3; have r0 := R3.cell 0 _ rfl; have r1 := R3.cell 1 _ rfl; have r2 := R3.cell 2 _ rfl; have f0 := R3.frozen 0; have f1 := R3.frozen 1; have f2 := R3.frozen 2; have L3 := HLL.out.drew.trans l3; clear l3))
    all_goals go_wp2_with fail
    all_goals
      have R4 := three_blk R3 rfl (.int .i64 0) (.int .i64 0) (.string ⟨#[]⟩)
      have L4 := three_later L3 (show w.heap.size ≤ g by have := HG.out; omega) (.int .i64 0) (.int .i64 0) (.string ⟨#[]⟩)
      obtain ⟨w4, hw4⟩ : ∃ w4, w4 = (((w3.setCell ⟨g, 0, none⟩ (.int .i64 0)).setCell ⟨g, 1, none⟩ (.int .i64 0)).setCell ⟨g, 2, none⟩ (.string ⟨#[]⟩)) := ⟨_, rfl⟩
      rw [← hw4] at R4 L4 ⊢
      have x0 := R4.cell 0 _ rfl
      have x1 := R4.cell 1 _ rfl
      have x2 := R4.cell 2 _ rfl
      exact bodyPost_ret (v := .tuple #[vagg 0 0 ⟨#[]⟩, .int .i64 0, .int .i64 0, .iface 82 (.pointer (some q2))]) (by simp [results, Tryz.results101, go_sem, x0, x1, x2]) rfl (RunPost.no HO.out _ _ _ _ _ L4)
end Go.Proofs.YtldalkhmbpkjpaaGreatDoor

/- Walks of package rle: read, Take. -/

namespace Go.Proofs.YtldalkhmbpkjpaaGreatDoor
open Go.RowKit
set_option linter.unusedVariables false

theorem wpList_append_h {P : Program} (w : World) {ops : Array Oper} {rest : List Oper} {o : Oper} {a : Act} {Q : Exit → Act → World → Prop} (hgd : o.guard = none) (s x : Operand) (t : TypeId)
    (ho : o.op = .call { callee := .builtin .append, args := #[s, x], argTypes := #[t, t] })
    (base : Nat) (e : TypeId) (z : Value) (size bytes : Nat) (ht : P.underlying t = some (.slice e)) (hinfo : (P.info? e).map (fun i => (i.zero, i.size, i.bytes)) = some (some z, size, bytes)) (hzs : z.cells.size = size) (hsz0 : 0 < size)
    (v : Value) (n : Nat) (xs : List Value) (hs : a.eval s = v) (hown : w.ownsRow base e size v n xs)
    (b off m c : Nat) (news : List Value) (hx : a.eval x = .slice (some ⟨b, off, none⟩) m c) (hr : Has w (some ⟨b, off, none⟩) news) (hm : news.length = m * size) (h1 : ∀ u ∈ news, u.oneCell' = true)
    (h63 : n + m ≤ maxLen) (hbytes : (n + m) * bytes ≤ 140737488355328) (hbase : base ≤ w.heap.size) (g3 : Nat) (hg3 : g3 < w.heap.size) (hne : v.ownBlock ≠ some g3)
    (h : ∀ A' c' w', w'.ownsRow base e size (.slice A' (n + m) c') (n + m) (xs ++ news) → Below base w w' → (Value.slice A' (n + m) c').ownBlock ≠ some g3 → w'.heap[g3]? = w.heap[g3]? → wpList P ops Q rest (a.put o.dst (.slice A' (n + m) c')) w') : wpList P ops Q (o :: rest) a w := by
  obtain ⟨i, hi, hz, hsz, hby⟩ := info_parts hinfo
  have hcells : ∀ j u, news[j]? = some u → w.cell? ((⟨b, off, none⟩ : Addr).add j) = some u := by
    intro j u hu
    rcases hr with h | ⟨b', off', h, _, hc⟩
    · subst h; simp at hu
    · injection h with h
      injection h with h1 h2
      subst h1 h2
      rw [add_plain]
      exact hc j u hu
  refine wpList_append_own_at w hgd s x t ho base e i z size bytes ht hi hz hsz hby hzs hsz0 v n xs hs hown ⟨b, off, none⟩ m c news hx hm hcells h1 h63 hbytes hbase fun v' w' h2 h3 _ hat => ?_
  obtain ⟨A', c', hv, hc'⟩ := ownG_shape h2
  subst hv
  refine h A' c' w' h2 ((Below.refl _ _).grown h3 hbase fun k hk => (hown.lt k hk).1) ?_ (h3.block g3 hg3 (fun e => hne e.symm))
  rcases hat with e | e
  · rw [e]; exact hne
  · rw [e]; intro e2; injection e2 with e2; omega

theorem readR_fuel (t : Int) (ht : 1 ≤ t ∧ t ≤ 4) : ∀ (f g m : Nat) (last : Option Val3) (b : List Nat), (∀ x ∈ b, x < 256) → b.length ≤ f → b.length ≤ g → readR t f m last b = readR t g m last b
  | f, g, m, last, [], _, _, _ => by cases f <;> cases g <;> rfl
  | 0, _, _, _, _ :: _, _, h, _ => by simp at h
  | _, 0, _, _, _ :: _, _, _, h => by simp at h
  | f + 1, g + 1, m, last, c :: b, hb, h1, h2 => by
    unfold readR
    cases hT : takeNum (c :: b) with
    | none => rfl
    | some q =>
      obtain ⟨u, k⟩ := q
      obtain ⟨_, hk, _⟩ := takeNum_is hb hT
      have hk1 := putNum_pos u
      simp only
      split
      · cases hC : takeC t ((c :: b).drop k) with
        | none => rfl
        | some q =>
          obtain ⟨i, s, j⟩ := q
          simp only
          split
          · rfl
          · rw [readR_fuel t ht f g _ _ ((c :: b).drop (k + j)) (fun x hx => hb x (List.mem_of_mem_drop hx)) (by rw [List.length_drop]; omega) (by rw [List.length_drop]; omega)]
      · rfl
/-- .. with fuel enough. -/
def readRR (t : Int) (m : Nat) (last : Option Val3) (b : List Nat) : Option (List Val3) := readR t b.length m last b
theorem readRR_nil (t : Int) (m : Nat) (last : Option Val3) : readRR t m last [] = if m = 0 then some [] else none := rfl
theorem readRR_none {t : Int} {m : Nat} {last : Option Val3} {b : List Nat} (hb : 0 < b.length) (h : runS t m b = none) : readRR t m last b = none := by
  match b, hb, h with
  | c :: b, _, h =>
    unfold readRR
    show readR t (b.length + 1) m last (c :: b) = none
    unfold readR
    unfold runS at h
    cases hT : takeNum (c :: b) with
    | none => rfl
    | some q =>
      obtain ⟨u, k⟩ := q
      rw [hT] at h
      simp only at h ⊢
      split
      · rename_i hu
        rw [if_pos hu] at h
        cases hC : takeC t ((c :: b).drop k) with
        | none => rfl
        | some q =>
          obtain ⟨i, s, j⟩ := q
          rw [hC] at h; cases h
      · rfl
theorem runS_is {t : Int} (ht : 1 ≤ t ∧ t ≤ 4) {m : Nat} {b : List Nat} (hb : ∀ x ∈ b, x < 256) {u z : Nat} {i : Int} {s : List Nat} (h : runS t m b = some (u, i, s, z)) : 1 ≤ u ∧ u ≤ m ∧ 1 ≤ z ∧ z ≤ b.length ∧ MayV t i (bstr s).size ∧ In64 i := by
  unfold runS at h
  split at h
  · rename_i u' k hT
    obtain ⟨_, hk, hk3⟩ := takeNum_is hb hT
    have hk1 := putNum_pos u'
    have hk2 := hk3.length_le
    split at h
    · rename_i hu
      split at h
      · rename_i i' s' j hC
        cases h
        obtain ⟨h1, h2⟩ := takeC_read hC
        obtain ⟨h3, h4, h5, _⟩ := readC_lt (fun x hx => hb x (List.mem_of_mem_drop hx)) h1
        rw [List.length_drop] at h4
        exact ⟨hu.1, hu.2, by omega, by omega, by rw [bstr_size]; exact h2, h5⟩
      · cases h
    · cases h
  · cases h
theorem readRR_some {t : Int} (ht : 1 ≤ t ∧ t ≤ 4) {m : Nat} {last : Option Val3} {b : List Nat} (hb : ∀ x ∈ b, x < 256) (hpos : 0 < b.length) {u z : Nat} {i : Int} {s : List Nat} (h : runS t m b = some (u, i, s, z)) :
    readRR t m last b = if last = some (t, i, bstr s) then none else (readRR t (m - u) (some (t, i, bstr s)) (b.drop z)).map fun l => List.replicate u (t, i, bstr s) ++ l := by
  match b, hpos, hb, h with
  | c :: b, _, hb, h =>
    unfold runS at h
    split at h
    · rename_i u' k hT
      obtain ⟨_, hk, _⟩ := takeNum_is hb hT
      have hk1 := putNum_pos u'
      split at h
      · rename_i hu
        split at h
        · rename_i i' s' j hC
          cases h
          unfold readRR
          show readR t (b.length + 1) m last (c :: b) = _
          conv => lhs; unfold readR
          rw [hT]
          simp only
          rw [if_pos hu, hC]
          simp only
          rw [readR_fuel t ht b.length ((c :: b).drop (k + j)).length _ _ ((c :: b).drop (k + j)) (fun x hx => hb x (List.mem_of_mem_drop hx)) (by rw [List.length_drop, List.length_cons]; omega) (Nat.le_refl _)]
        · cases h
      · cases h
    · cases h

def RdInv (o : Option (List Val3)) (t : Int) (n : Nat) (w : World) (lv bv : Value) (wr : World) : Prop :=
  ∃ (L : Option Addr) (cl : Nat) (done : List Val3) (B : Option Addr) (cb : Nat) (rest : List Nat), lv = .slice L done.length cl ∧ bv = .slice B rest.length cb ∧ wr.ownsRow w.heap.size 26 3 (.slice L done.length cl) done.length (fl done) ∧ OkL t done ∧ done.length ≤ n ∧ Has w B (ints .u8 rest) ∧ (∀ x ∈ rest, x < 256) ∧ rest.length ≤ 1000000 ∧ rest.length ≤ cb ∧ cb ≤ 9223372036854775807 ∧ o = (readRR t (n - done.length) done.getLast? rest).map (fun l => done ++ l) ∧ Later w wr
theorem RdInv.mk {o : Option (List Val3)} {t : Int} {n : Nat} {w wr : World} (L : Option Addr) (cl m : Nat) (done : List Val3) (B : Option Addr) (cb mb : Nat) (rest : List Nat) (hm : m = done.length) (hmb : mb = rest.length) (h1 : wr.ownsRow w.heap.size 26 3 (.slice L m cl) m (fl done)) (h2 : OkL t done) (h3 : done.length ≤ n) (h4 : Has w B (ints .u8 rest)) (h5 : ∀ x ∈ rest, x < 256) (h6 : rest.length ≤ 1000000) (h7 : rest.length ≤ cb) (h8 : cb ≤ 9223372036854775807) (h9 : o = (readRR t (n - done.length) done.getLast? rest).map (fun l => done ++ l)) (h10 : Later w wr) : RdInv o t n w (.slice L m cl) (.slice B mb cb) wr := by
  subst hm hmb
  exact ⟨L, cl, done, B, cb, rest, rfl, rfl, h1, h2, h3, h4, h5, h6, h7, h8, h9, h10⟩
def RIn (t : Int) (done : List Val3) (u : Nat) (v : Val3) (base g3 : Nat) (w wq : World) (lv iv : Value) (wi : World) : Prop :=
  ∃ (L : Option Addr) (cl j : Nat), lv = .slice L (done ++ List.replicate j v).length cl ∧ iv = .int .i64 (j : Int) ∧ j ≤ u ∧ wi.ownsRow base 26 3 (.slice L (done ++ List.replicate j v).length cl) (done ++ List.replicate j v).length (fl (done ++ List.replicate j v)) ∧ (Value.slice L (done ++ List.replicate j v).length cl).ownBlock ≠ some g3 ∧ Blk wi g3 #[.int .i64 v.1, .int .i64 v.2.1, .string v.2.2] 26 ∧ Later w wi
theorem RIn.mk {t : Int} {done : List Val3} {u : Nat} {v : Val3} {base g3 : Nat} {w wq wi : World} (L : Option Addr) (cl m j : Nat) (jj : Int) (hm : m = (done ++ List.replicate j v).length) (hj : jj = (j : Int)) (h1 : j ≤ u) (h2 : wi.ownsRow base 26 3 (.slice L m cl) m (fl (done ++ List.replicate j v))) (h3 : (Value.slice L m cl).ownBlock ≠ some g3) (h4 : Blk wi g3 #[.int .i64 v.1, .int .i64 v.2.1, .string v.2.2] 26) (h5 : Later w wi) : RIn t done u v base g3 w wq (.slice L m cl) (.int .i64 jj) wi := by
  subst hm hj
  exact ⟨L, cl, j, rfl, rfl, h1, h2, h3, h4, h5⟩

set_option maxRecDepth 100000 in
set_option maxHeartbeats 2000000 in
theorem rleRead_yes (t : Int) (n : Nat) (A : Option Addr) (c : Nat) (b : List Nat) (w : World) (hs : S6 w) (ht : 1 ≤ t ∧ t ≤ 4) (hn : n ≤ 1000) (hr : Has w A (ints .u8 b)) (h256 : ∀ x ∈ b, x < 256) (hb : b.length ≤ 1000000) (hbc : b.length ≤ c) (hc : c ≤ 9223372036854775807) :
    Calls Tryz.prog 80 #[.int .i64 t, .int .i64 n, .slice A b.length c] w (WritesV (readRR t n none b) w) := by
  have hif : Tryz.prog.isIface 40 = true := by kernel_rfl
  have HC := Lib.hid (count_yes t n w ht (by omega))
  obtain ⟨o, ho⟩ : ∃ o, o = readRR t n none b := ⟨_, rfl⟩
  rw [← ho]
  have HT := Lib.hid ht
  have REL := Lib.hid (show o = (readRR t (n - 0) ([] : List Val3).getLast? b).map (fun l => [] ++ l) by rw [ho]; simp)
  clear ht ho
  go_enter Tryz.func80, Tryz.ntmps80
  go_wp2_with (go_at_call 42; refine HC.out.mono ?_; rintro e w' ⟨rfl, rfl⟩)
  clear HC
  go_loopw [9, 2] (fun lv bv wr => RdInv o t n w lv bv wr) (fun _ bv _ => lenV bv)
  case atStart => exact RdInv.mk none 0 0 [] A c _ b rfl rfl (ownG_nil _ _ _ _) (fun x hx => by cases hx) (Nat.zero_le _) hr h256 hb hbc hc REL.out (Later.refl _)
  case round =>
    obtain ⟨L, cl, done, B, cb, rest, rfl, rfl, hown, hok, hdn, hrest, hr256, hrl, hrc, hcb, hrel, lat⟩ := hrel
    clear hr h256 hb hbc hc REL
    obtain ⟨k, hk⟩ : ∃ k, k = done.length := ⟨_, rfl⟩
    obtain ⟨m, hm⟩ : ∃ m, m = rest.length := ⟨_, rfl⟩
    have HDL := Lib.hid hk
    have HML := Lib.hid hm
    have HRR := Lib.hid (fun mm (h : mm = n - k) => readRun_any t HT.out mm (by omega) B cb rest wr (hs.later lat) (hrest.later lat) hr256 hrl hrc hcb)
    rw [← hk] at hown hdn hrel ⊢
    rw [← hm] at hrl hrc HRR ⊢
    have HOWN := Lib.hid hown
    have HOK := Lib.hid hok
    have HREST := Lib.hid hrest
    have H256 := Lib.hid hr256
    have HREL := Lib.hid hrel
    have HLAT := Lib.hid lat
    clear hown hok hrest hr256 hrel lat hk hm
    by_cases hpos : 0 < m
    · obtain ⟨mm, hmm⟩ : ∃ mm, mm = n - k := ⟨_, rfl⟩
      have hsub : (n : Int) - (k : Int) = (mm : Int) := by omega
      have HRN := Lib.hid (HRR.out mm hmm)
      have HMM := Lib.hid hmm
      clear hmm HRR
      go_wp2_with fail
      refine HRN.out.mono ?_
      rintro e w2 ⟨⟨hS, t', i', c', z', s', p, rfl⟩ | ⟨u, i, s, z, hS, rfl⟩, l2⟩
      · have HO := Lib.hid (show o = none by
          rw [HREL.out, ← HMM.out, readRR_none (by have := HML.out; omega) hS]; rfl)
        have heq := fun w => run_eql_iface_nil (P := Tryz.prog) (w := w) 40 hif 82 (.pointer (some p))
        have HL2 := Lib.hid (HLAT.out.trans l2)
        clear hS l2
        go_wp2_with (go_at_call 27; refine (at_w _ _ _ _).mono ?_; rintro e w3 ⟨q, rfl, l3⟩)
        go_ret2
        exact ⟨.inl ⟨HO.out, q, rfl⟩, (HL2.out.alloc _).trans l3⟩
      · obtain ⟨hu1, hum, hz1, hzl, hmay, hi64⟩ := runS_is HT.out H256.out hS
        rw [← HML.out] at hzl
        have HSTEP := Lib.hid (show o = (if done.getLast? = some (t, i, bstr s) then none else (readRR t (mm - u) (some (t, i, bstr s)) (rest.drop z)).map fun l => List.replicate u (t, i, bstr s) ++ l).map (fun l => done ++ l) by
          rw [HREL.out, ← HMM.out, readRR_some HT.out H256.out (by have := HML.out; omega) hS])
        obtain ⟨S, hSS⟩ : ∃ S, S = bstr s := ⟨_, rfl⟩
        rw [← hSS] at HSTEP hmay ⊢
        obtain ⟨rd, hrd⟩ : ∃ rd, rd = rest.drop z := ⟨_, rfl⟩
        rw [← hrd] at HSTEP
        have HDRL := Lib.hid (show rd.length = m - z by rw [hrd, List.length_drop, ← HML.out])
        have HD256 := Lib.hid (show ∀ x ∈ rd, x < 256 from fun x hx => H256.out x (by rw [hrd] at hx; exact List.mem_of_mem_drop hx))
        obtain ⟨bb, off, rfl⟩ : ∃ bb off, B = some ⟨bb, off, none⟩ := by
          rcases HREST.out with h | ⟨bb, off, h, _⟩
          · have : rest.length = 0 := by have := congrArg List.length h; rw [ints_length] at this; exact this
            have := HML.out; omega
          · exact ⟨bb, off, h⟩
        have HRD := Lib.hid (show Has w (some ⟨bb, off + z, none⟩) (ints .u8 rd) from by have h := HREST.out.drop z; rw [show (ints .u8 rest).drop z = ints .u8 (rest.drop z) by simp [ints, List.map_drop], ← hrd] at h; exact h)
        have hu1000 : u ≤ 1000 := by have := HMM.out; omega
        have HOKN := Lib.hid (show OkL t (done ++ List.replicate u (t, i, S)) from fun x hx => by
          rcases List.mem_append.1 hx with hx | hx
          · exact HOK.out x hx
          · rw [(List.mem_replicate.1 hx).2]; exact ⟨rfl, hmay⟩)
        have HLEN := Lib.hid (show (done ++ List.replicate u (t, i, S)).length ≤ n by rw [List.length_append, List.length_replicate, ← HDL.out]; have := HMM.out; omega)
        have HNEW := Lib.hid (fun (hne : done.getLast? ≠ some (t, i, S)) => (show o = (readRR t (n - (done ++ List.replicate u (t, i, S)).length) (done ++ List.replicate u (t, i, S)).getLast? rd).map (fun l => (done ++ List.replicate u (t, i, S)) ++ l) from by
          rw [HSTEP.out, if_neg hne]
          have e1 : n - (done ++ List.replicate u (t, i, S)).length = mm - u := by rw [List.length_append, List.length_replicate, ← HDL.out]; have := HMM.out; omega
          have e2 : (done ++ List.replicate u (t, i, S)).getLast? = some (t, i, S) := by
            obtain ⟨q, rfl⟩ : ∃ q, u = q + 1 := ⟨u - 1, by omega⟩
            rw [List.replicate_succ', ← List.append_assoc, List.getLast?_append]; rfl
          rw [e1, e2]
          cases readRR t (mm - u) (some (t, i, S)) rd with
          | none => rfl
          | some l => simp))
        have HSAME := Lib.hid (fun (he : done.getLast? = some (t, i, S)) => (show o = none from by rw [HSTEP.out, if_pos he]; rfl))
        obtain ⟨w3, hw3⟩ : ∃ w3, w3 = w2.alloc (.cells #[.int .i64 t, .int .i64 i, .string S] 26) := ⟨_, rfl⟩
        have l3 : Later w2 w3 := hw3 ▸ Later.new _ _
        have V3 : Blk w3 w2.heap.size #[.int .i64 t, .int .i64 i, .string S] 26 := hw3 ▸ Blk.new w2 _ _ _ rfl
        have OWN2 := own_later HOWN.out l2
        have OWN3 := own_later OWN2 l3
        obtain ⟨g3, hg3⟩ : ∃ g3, g3 = w2.heap.size := ⟨_, rfl⟩
        have NB3 : (Value.slice L k cl).ownBlock ≠ some g3 := fun e => by have := (OWN2.lt g3 e).2; omega
        rw [← hg3] at V3
        have HL3 := Lib.hid (HLAT.out.trans (l2.trans l3))
        have HW3 := Lib.hid hw3
        have HG3 := Lib.hid hg3
        have HMAY := Lib.hid hmay
        clear hS HSTEP hSS hrd hw3 hg3 l2 l3 OWN2 hmay hi64 HRN HLAT HOWN HREL
        by_cases hk0 : k = 0
        · have hd0 : done = [] := List.eq_nil_of_length_eq_zero (by have := HDL.out; omega)
          have HRELN := Lib.hid (HNEW.out (by rw [hd0]; simp))
          subst hk0
          have HV := Lib.hid V3
          have HO3 := Lib.hid OWN3
          have HN3 := Lib.hid NB3
          clear HNEW HSAME hd0 OWN3 NB3 V3
          go_wp2_with fail
          rw [← HW3.out, ← HG3.out]
          go_quiet (fail)
          rename_i nq
          go_wp2_with fail
          obtain ⟨wq, hwq⟩ : ∃ wq, wq = w3.drewN nq := ⟨_, rfl⟩
          have l4 : Later w3 wq := hwq ▸ (Later.refl w3).drewN nq
          have HVQ := Lib.hid (HV.out.later l4)
          have HOWNQ := Lib.hid (own_later HO3.out l4)
          have HNBQ := HN3
          have HLQ := Lib.hid (HL3.out.trans l4)
          rw [← hwq]
          clear hwq l4
          have LQ0 := Lib.hid (Later.refl wq)
          go_loopw [9, 60] (fun lv iv wi => RIn t done u (t, i, S) w.heap.size g3 w wq lv iv wi) (fun _ iv _ => u - (intOf iv).toNat)
          case atStart => exact RIn.mk (done := done) (u := u) (v := (t, i, S)) L cl 0 0 0 (by rw [List.replicate_zero, List.append_nil]; exact HDL.out) rfl (Nat.zero_le _) (by rw [List.replicate_zero, List.append_nil]; exact HOWNQ.out) HNBQ.out HVQ.out HLQ.out
          case round =>
            obtain ⟨L2, cl2, j, rfl, rfl, hju, hown2, hnb2, hv2, lat2⟩ := hrel
            by_cases hj : j < u
            · have v0 := hv2.cell 0 _ rfl
              have v1 := hv2.cell 1 _ rfl
              have v2 := hv2.cell 2 _ rfl
              obtain ⟨m2, hm2⟩ : ∃ m2, m2 = (done ++ List.replicate j (t, i, S)).length := ⟨_, rfl⟩
              rw [← hm2] at hown2 hnb2 ⊢
              have hm2le : m2 ≤ 2000 := by rw [hm2, List.length_append, List.length_replicate]; have := HDL.out; omega
              have HAS := Lib.hid ((Blk.new wr (fl [(t, i, S)]).toArray 26 _ rfl).has)
              have O2 := Lib.hid (hown2.alloc (.cells (fl [(t, i, S)]).toArray 26))
              have LT2 := Lib.hid (lat2.alloc (.cells (fl [(t, i, S)]).toArray 26))
              have V2 := Lib.hid (hv2.later (Later.new wr (.cells (fl [(t, i, S)]).toArray 26)))
              have NB2 := Lib.hid hnb2
              have HM2 := Lib.hid hm2
              have HREP := Lib.hid (show done ++ List.replicate (j + 1) (t, i, S) = (done ++ List.replicate j (t, i, S)) ++ [(t, i, S)] by rw [List.replicate_succ', List.append_assoc])
              clear hown2 hnb2 hv2 lat2 hm2
              go_wp2_with (at_builtin; refine wpList_append_h _ rfl (.tmp 62) (.tmp 64) 23 rfl w.heap.size 26 (vagg 0 0 ⟨#[]⟩) 3 32 Tryz.underlying23 info_v rfl (by decide) _ m2 (fl (done ++ List.replicate j (t, i, S))) rfl O2.out _ _ 1 1 (fl [(t, i, S)]) rfl HAS.out (by rfl) (fl_one _) (by unfold maxLen; omega) (by omega) LT2.out.size g3 V2.out.lt NB2.out ?_; intro A2 c2 w6 o2 b2 nb6 hv6; have HO2 := Lib.hid o2; have HB6 := Lib.hid b2; have NB6 := Lib.hid nb6; have V6 := Lib.hid (show Blk w6 g3 #[.int .i64 t, .int .i64 i, .string S] 26 from hv6.trans V2.out); clear o2 b2 nb6 hv6)
              go_roundw
              case rel => exact RIn.mk (done := done) (u := u) (v := (t, i, S)) A2 c2 _ (j + 1) _ (by rw [HREP.out, List.length_append, HM2.out]; rfl) (by omega) hj (by rw [HREP.out, fl_append]; exact HO2.out) NB6.out V6.out (Later.of (LT2.out.below.trans HB6.out))
              case measure => simp [intOf]; omega
            · obtain rfl : j = u := by omega
              obtain ⟨m2, hm2⟩ : ∃ m2, m2 = (done ++ List.replicate j (t, i, S)).length := ⟨_, rfl⟩
              rw [← hm2] at hown2 hnb2 ⊢
              have OZ := Lib.hid hown2
              have LZ := Lib.hid lat2
              have HM2 := Lib.hid hm2
              clear hown2 hnb2 hv2 lat2 hm2
              by_cases hcz : cb = z
              · have h1 : z = cb := hcz.symm
                subst h1
                have hrd0 : rd = [] := List.eq_nil_of_length_eq_zero (by have := HDRL.out; omega)
                have hml : m = z := by omega
                have HF := Lib.hid (fun B' => RdInv.mk (o := o) (t := t) (n := n) (w := w) (wr := wr) L2 cl2 m2 (done ++ List.replicate j (t, i, S)) B' 0 0 rd HM2.out (by rw [hrd0]; rfl) OZ.out HOKN.out HLEN.out (by rw [hrd0]; exact Has.nil_) HD256.out (by rw [hrd0]; exact Nat.zero_le _) (by rw [hrd0]; exact Nat.zero_le _) (by decide) HRELN.out LZ.out)
                clear hrd0 hcz
                subst hml
                go_wp2_with fail
                go_roundw
                case rel => exact HF.out _
                case measure => simp [lenV]; omega
              · have HF := Lib.hid (RdInv.mk (o := o) (t := t) (n := n) (w := w) (wr := wr) L2 cl2 m2 (done ++ List.replicate j (t, i, S)) (some ⟨bb, off + z, none⟩) (cb - z) (m - z) rd HM2.out HDRL.out.symm OZ.out HOKN.out HLEN.out HRD.out HD256.out (by have := HDRL.out; omega) (by have := HDRL.out; omega) (by omega) HRELN.out LZ.out)
                go_wp2_with fail
                go_roundw
                case rel => exact HF.out
                case measure => simp [lenV]; omega
        · obtain ⟨k', hkk⟩ : ∃ k', k = k' + 1 := ⟨k - 1, by omega⟩
          have HKK := Lib.hid hkk
          have hi2 : (k' : Int) < (k : Int) := by omega
          have hi4 : k' < k := by omega
          have hk1 : (k : Int) - 1 = (k' : Int) := by omega
          have hkd : decide ((0 : Int) < (k : Int)) = true := decide_eq_true (by omega)
          have hkd2 : 0 < k := by omega
          have hk1000 : k' ≤ 1000 := by omega
          have hw1 : IntKind.i64.wrap (k' : Int) = (k' : Int) := IntWalk.i64_in _ ⟨by omega, by omega⟩
          have hw2 : IntKind.i64.wrap ((k : Int) - 1) = (k' : Int) := by rw [hk1]; exact hw1
          have hi1 : (0 : Int) ≤ (k' : Int) := by omega
          have hkl : k' < done.length := by have := HDL.out; omega
          clear hkk hk0
          obtain ⟨bl, ol, hadr, c0, c1, c2⟩ := (Has.ownG OWN3).val3 k' hkl
          subst hadr
          have hlast : done.getLast? = some done[k'] := by
            rw [List.getLast?_eq_getElem?, show done.length - 1 = k' by have := HDL.out; have := HKK.out; omega, List.getElem?_eq_getElem hkl]
          obtain ⟨ho1, ho2⟩ := HOK.out _ (List.getElem_mem hkl)
          rw [hlast] at HNEW HSAME
          clear hlast
          generalize done[k'] = last at c0 c1 c2 ho1 ho2 HNEW HSAME
          obtain ⟨tl, il, sl⟩ := last
          dsimp only at c0 c1 c2 ho1 ho2
          subst ho1
          obtain ⟨zz, hzz⟩ : ∃ zz, zz = cmpV tl il sl tl i S := ⟨_, rfl⟩
          have HZ := Lib.hid (show zz = 0 ↔ (il, sl) = (i, S) by rw [hzz]; exact cmpV_ok HT.out ho2 HMAY.out)
          have HCMP := Lib.hid (fun w' => (valCmp_any tl il sl tl i S w').mono fun e w'' (h : TellsInt _ _ _ _) => (show e = .returned (.int .i64 zz) ∧ Later w' w'' from by rw [hzz]; exact h))
          have e0 := (show CellIs w3 ⟨bl, ol + k' * 3, none⟩ (.int .i64 tl) from c0).drew
          have e1 := (show CellIs w3 ⟨bl, ol + k' * 3 + 1, none⟩ (.int .i64 il) from c1).drew
          have e2 := (show CellIs w3 ⟨bl, ol + k' * 3 + 2, none⟩ (.string sl) from c2).drew
          have g0 := (show CellIs w3 ⟨g3, 0, none⟩ (.int .i64 tl) from V3.cell 0 _ rfl).drew
          have g1 := (show CellIs w3 ⟨g3, 1, none⟩ (.int .i64 i) from V3.cell 1 _ rfl).drew
          have g2 := (show CellIs w3 ⟨g3, 2, none⟩ (.string S) from V3.cell 2 _ rfl).drew
          have lz := (Later.refl w3).drew
          have HV := Lib.hid V3
          have HO3 := Lib.hid OWN3
          have HN3 := Lib.hid NB3
          have HS3 := Lib.hid (hs.later HL3.out)
          have hi1 : (0 : Int) ≤ (k' : Int) := by omega
          clear hzz c0 c1 c2 ho2 OWN3 NB3 V3 hkl
          by_cases hz0 : zz = 0
          · have HO := Lib.hid (HSAME.out (by have h := HZ.out.1 hz0; have h1 := congrArg Prod.fst h; have h2 := congrArg Prod.snd h; dsimp only at h1 h2; rw [h1, h2]))
            subst hz0
            go_wp2_with fail
            rw [← HW3.out, ← HG3.out]
            first
              | go_region_held3 (fun w' => w'.cell? ⟨bl, ol + k' * 3, none⟩ = some (.int .i64 tl) ∧ w'.cell? ⟨bl, ol + k' * 3 + 1, none⟩ = some (.int .i64 il) ∧ w'.cell? ⟨bl, ol + k' * 3 + 2, none⟩ = some (.string sl) ∧ w'.cell? ⟨g3, 0, none⟩ = some (.int .i64 tl) ∧ w'.cell? ⟨g3, 1, none⟩ = some (.int .i64 i) ∧ w'.cell? ⟨g3, 2, none⟩ = some (.string S)) (exact ⟨e0.out, e1.out, e2.out, g0.out, g1.out, g2.out⟩) (first | (go_at_call 102; refine (HCMP.out _).mono ?_; rintro e wX ⟨rfl, lX⟩; have lz := lz.trans lX; have e0 := e0.later lX; have e1 := e1.later lX; have e2 := e2.later lX; have g0 := g0.later lX; have g1 := g1.later lX; have g2 := g2.later lX; clear lX))
              | fail "no walk"
            all_goals obtain ⟨sa, hsp⟩ := (HS3.out.later lz).spare
            all_goals go_wp2_with (go_at_call 27; refine (at_l _ _ _ _).mono ?_; rintro e w5 ⟨q, rfl, l5⟩)
            all_goals go_ret2
            all_goals exact ⟨.inl ⟨HO.out, q, rfl⟩, (HL3.out.trans lz).trans l5⟩
          · have HRELN := Lib.hid (HNEW.out (fun h => hz0 (HZ.out.2 (by injection h with h; have h1 := congrArg (fun p => p.2.1) h; have h2 := congrArg (fun p => p.2.2) h; dsimp only at h1 h2; rw [h1, h2]))))
            have hzb : (zz == 0) = false := by rw [beq_eq_false_iff_ne]; exact hz0
            clear hz0 HNEW HSAME
            go_wp2_with fail
            rw [← HW3.out, ← HG3.out]
            first
              | go_region_held3 (fun w' => w'.cell? ⟨bl, ol + k' * 3, none⟩ = some (.int .i64 tl) ∧ w'.cell? ⟨bl, ol + k' * 3 + 1, none⟩ = some (.int .i64 il) ∧ w'.cell? ⟨bl, ol + k' * 3 + 2, none⟩ = some (.string sl) ∧ w'.cell? ⟨g3, 0, none⟩ = some (.int .i64 tl) ∧ w'.cell? ⟨g3, 1, none⟩ = some (.int .i64 i) ∧ w'.cell? ⟨g3, 2, none⟩ = some (.string S)) (exact ⟨e0.out, e1.out, e2.out, g0.out, g1.out, g2.out⟩) (first | (go_at_call 102; refine (HCMP.out _).mono ?_; rintro e wX ⟨rfl, lX⟩; have lz := lz.trans lX; have e0 := e0.later lX; have e1 := e1.later lX; have e2 := e2.later lX; have g0 := g0.later lX; have g1 := g1.later lX; have g2 := g2.later lX; clear lX))
              | fail "no walk"
            all_goals go_wp2_with fail
            have HVQ := Lib.hid (HV.out.later lz)
            have HOWNQ := Lib.hid (own_later HO3.out lz)
            have HNBQ := HN3
            have HLQ := Lib.hid (HL3.out.trans lz)
            clear e0 e1 e2 g0 g1 g2 lz
            have LQ0 := Lib.hid (Later.refl wX)
            go_loopw [9, 60] (fun lv iv wi => RIn tl done u (tl, i, S) w.heap.size g3 w wX lv iv wi) (fun _ iv _ => u - (intOf iv).toNat)
            case atStart => exact RIn.mk (done := done) (u := u) (v := (tl, i, S)) _ cl k 0 0 (by rw [List.replicate_zero, List.append_nil]; exact HDL.out) rfl (Nat.zero_le _) (by rw [List.replicate_zero, List.append_nil]; exact HOWNQ.out) HNBQ.out HVQ.out HLQ.out
            case round =>
              obtain ⟨L2, cl2, j, rfl, rfl, hju, hown2, hnb2, hv2, lat2⟩ := hrel
              by_cases hj : j < u
              · have v0 := hv2.cell 0 _ rfl
                have v1 := hv2.cell 1 _ rfl
                have v2 := hv2.cell 2 _ rfl
                obtain ⟨m2, hm2⟩ : ∃ m2, m2 = (done ++ List.replicate j (tl, i, S)).length := ⟨_, rfl⟩
                rw [← hm2] at hown2 hnb2 ⊢
                have hm2le : m2 ≤ 2000 := by rw [hm2, List.length_append, List.length_replicate]; have := HDL.out; omega
                have HAS := Lib.hid ((Blk.new wr (fl [(tl, i, S)]).toArray 26 _ rfl).has)
                have O2 := Lib.hid (hown2.alloc (.cells (fl [(tl, i, S)]).toArray 26))
                have LT2 := Lib.hid (lat2.alloc (.cells (fl [(tl, i, S)]).toArray 26))
                have V2 := Lib.hid (hv2.later (Later.new wr (.cells (fl [(tl, i, S)]).toArray 26)))
                have NB2 := Lib.hid hnb2
                have HM2 := Lib.hid hm2
                have HREP := Lib.hid (show done ++ List.replicate (j + 1) (tl, i, S) = (done ++ List.replicate j (tl, i, S)) ++ [(tl, i, S)] by rw [List.replicate_succ', List.append_assoc])
                clear hown2 hnb2 hv2 lat2 hm2
                go_wp2_with (at_builtin; refine wpList_append_h _ rfl (.tmp 62) (.tmp 64) 23 rfl w.heap.size 26 (vagg 0 0 ⟨#[]⟩) 3 32 Tryz.underlying23 info_v rfl (by decide) _ m2 (fl (done ++ List.replicate j (tl, i, S))) rfl O2.out _ _ 1 1 (fl [(tl, i, S)]) rfl HAS.out (by rfl) (fl_one _) (by unfold maxLen; omega) (by omega) LT2.out.size g3 V2.out.lt NB2.out ?_; intro A2 c2 w6 o2 b2 nb6 hv6; have HO2 := Lib.hid o2; have HB6 := Lib.hid b2; have NB6 := Lib.hid nb6; have V6 := Lib.hid (show Blk w6 g3 #[.int .i64 tl, .int .i64 i, .string S] 26 from hv6.trans V2.out); clear o2 b2 nb6 hv6)
                go_roundw
                case rel => exact RIn.mk (done := done) (u := u) (v := (tl, i, S)) A2 c2 _ (j + 1) _ (by rw [HREP.out, List.length_append, HM2.out]; rfl) (by omega) hj (by rw [HREP.out, fl_append]; exact HO2.out) NB6.out V6.out (Later.of (LT2.out.below.trans HB6.out))
                case measure => simp [intOf]; omega
              · obtain rfl : j = u := by omega
                obtain ⟨m2, hm2⟩ : ∃ m2, m2 = (done ++ List.replicate j (tl, i, S)).length := ⟨_, rfl⟩
                rw [← hm2] at hown2 hnb2 ⊢
                have OZ := Lib.hid hown2
                have LZ := Lib.hid lat2
                have HM2 := Lib.hid hm2
                clear hown2 hnb2 hv2 lat2 hm2
                by_cases hcz : cb = z
                · have h1 : z = cb := hcz.symm
                  subst h1
                  have hrd0 : rd = [] := List.eq_nil_of_length_eq_zero (by have := HDRL.out; omega)
                  have hml : m = z := by omega
                  have HF := Lib.hid (fun B' => RdInv.mk (o := o) (t := tl) (n := n) (w := w) (wr := wr) L2 cl2 m2 (done ++ List.replicate j (tl, i, S)) B' 0 0 rd HM2.out (by rw [hrd0]; rfl) OZ.out HOKN.out HLEN.out (by rw [hrd0]; exact Has.nil_) HD256.out (by rw [hrd0]; exact Nat.zero_le _) (by rw [hrd0]; exact Nat.zero_le _) (by decide) HRELN.out LZ.out)
                  clear hrd0 hcz
                  subst hml
                  go_wp2_with fail
                  go_roundw
                  case rel => exact HF.out _
                  case measure => simp [lenV]; omega
                · have HF := Lib.hid (RdInv.mk (o := o) (t := tl) (n := n) (w := w) (wr := wr) L2 cl2 m2 (done ++ List.replicate j (tl, i, S)) (some ⟨bb, off + z, none⟩) (cb - z) (m - z) rd HM2.out HDRL.out.symm OZ.out HOKN.out HLEN.out HRD.out HD256.out (by have := HDRL.out; omega) (by have := HDRL.out; omega) (by omega) HRELN.out LZ.out)
                  go_wp2_with fail
                  go_roundw
                  case rel => exact HF.out
                  case measure => simp [lenV]; omega
    · obtain rfl : rest = [] := List.eq_nil_of_length_eq_zero (by have := HML.out; omega)
      obtain rfl : m = 0 := by omega
      have HR0 := Lib.hid HREL.out
      have HO3 := Lib.hid (Has.ownG HOWN.out)
      have HCP := Lib.hid (And.intro (ownG_cap HOWN.out) (ownG_capmax HOWN.out))
      obtain ⟨sa, hsh⟩ := (hs.later HLAT.out).short
      by_cases hkn : k < n
      · have HO := Lib.hid (show o = none by rw [HREL.out, readRR_nil, if_neg (by omega)]; rfl)
        clear HRR
        go_wp2_with (go_at_call 27; refine (at_l _ _ _ _).mono ?_; rintro e w3 ⟨q, rfl, l3⟩)
        go_ret2
        exact ⟨.inl ⟨HO.out, q, rfl⟩, HLAT.out.trans l3⟩
      · have HO := Lib.hid (show o = some done by rw [HREL.out, readRR_nil, if_pos (by omega)]; show some (done ++ []) = _; rw [List.append_nil])
        clear HRR
        go_wp2_with fail
        go_ret2
        refine ⟨.inr ⟨done, L, cl, HO.out, ?_, HO3.out, by have := HDL.out; have := HCP.out; omega⟩, HLAT.out⟩
        rw [← HDL.out]
        rfl

set_option maxRecDepth 100000 in
theorem rleRead_no (t n : Int) (A : Option Addr) (m c : Nat) (w : World) (hs : S6 w) (h : ¬ ((1 ≤ t ∧ t ≤ 4) ∧ 0 ≤ n ∧ n ≤ 1000)) :
    Calls Tryz.prog 80 #[.int .i64 t, .int .i64 n, .slice A m c] w (WritesV none w) := by
  have hif : Tryz.prog.isIface 40 = true := by kernel_rfl
  have HA := Lib.hid (count_no t n w h hs.type hs.bound)
  clear hs h
  go_enter Tryz.func80, Tryz.ntmps80
  go_wp2_with fail
  refine HA.out.mono ?_
  rintro e w1 ⟨v, rfl, ⟨p, rfl⟩, l1⟩
  have heq := run_eql_iface_nil (P := Tryz.prog) (w := w1) 40 hif 82 (.pointer (some p))
  go_wp2_with fail
  go_ret2
  exact ⟨.inl ⟨rfl, p, rfl⟩, l1⟩

set_option maxRecDepth 100000 in
theorem rleTake_c (t n : Int) (A : Option Addr) (c : Nat) (b : List Nat) (w : World) (hs : S6 w) (hr : Has w A (ints .u8 b)) (h256 : ∀ x ∈ b, x < 256) (hb : b.length ≤ 1000000) (hbc : b.length ≤ c) (hc : c ≤ 9223372036854775807) :
    Calls Tryz.prog 60 #[.int .i64 t, .int .i64 n, .slice A b.length c] w (TakesV (takeL t n b) w) := by
  have HC := Lib.hid (show Calls Tryz.prog 80 #[.int .i64 t, .int .i64 n, .slice A b.length c] w (WritesV (takeL t n b) w) from by
    unfold takeL
    by_cases h : (1 ≤ t ∧ t ≤ 4) ∧ 0 ≤ n ∧ n ≤ 1000
    · rw [if_pos h]
      obtain ⟨m, rfl⟩ : ∃ m : Nat, n = (m : Int) := ⟨n.toNat, by omega⟩
      exact rleRead_yes t m A c b w hs h.1 (by omega) hr h256 hb hbc hc
    · rw [if_neg h]; exact rleRead_no t n A _ c w hs h)
  clear hs hr h256 hb hbc hc
  go_enter Tryz.func60, Tryz.ntmps60
  go_wp2_with fail
  refine HC.out.mono ?_
  rintro e w1 ⟨⟨ho, p, rfl⟩ | ⟨l, B, cb, ho, rfl, h1⟩, l1⟩
  · go_wp2_with (go_at_call 79; refine (listV_no _ _ _ p _).mono ?_; rintro e w' ⟨rfl, rfl⟩)
    go_ret2
    exact ⟨.inl ⟨ho, rfl⟩, l1⟩
  · have H := Lib.hid (show TakesV (takeL t n b) w (.returned (.tuple #[.slice B l.length cb, .bool true])) w1 from ⟨.inr ⟨l, B, cb, ho, rfl, h1⟩, l1⟩)
    clear ho h1 l1
    go_wp2_with (go_at_call 79; refine (listV_yes _ _ _ _).mono ?_; rintro e w' ⟨rfl, rfl⟩)
    go_ret2
    exact H.out
theorem rleTake_any (t n : Int) (A : Option Addr) (c : Nat) (b : List Nat) (w : World) (hs : S6 w) (hr : Has w A (ints .u8 b)) (h256 : ∀ x ∈ b, x < 256) (hb : b.length ≤ 1000000) (hbc : b.length ≤ c) (hc : c ≤ 9223372036854775807) :
    Calls Tryz.prog 60 #[.int .i64 t, .int .i64 n, .slice A b.length c] w (PutsV (takeL t n b) w) :=
  (rleTake_c t n A c b w hs hr h256 hb hbc hc).mono fun _ _ h => h.puts
end Go.Proofs.YtldalkhmbpkjpaaGreatDoor
