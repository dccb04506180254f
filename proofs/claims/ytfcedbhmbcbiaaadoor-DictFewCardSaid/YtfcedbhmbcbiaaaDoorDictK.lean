/- The walk of slices.CompactFunc at values. -/
import Derived.Test.YtfcedbhmbcbiaaaDoorDictC
namespace Go.Proofs.YtfcedbhmbcbiaaaDoor
open Go.RowKit
set_option linter.unusedVariables false

theorem below_setCells (base g : Nat) (hg : base ≤ g) : ∀ (vs : List Value) (o : Nat) (a w : World), Below base a w → Below base a (w.setCells g o vs)
  | [], _, _, _, h => h
  | v :: r, o, a, w, h => below_setCells base g hg r (o + 1) a _ (h.setCell (p := ⟨g, o, none⟩) hg v)
theorem Cells3.later {w w' : World} {g : Nat} {d : List Val3} (h : Cells3 w g d) (l : Later w w') : Cells3 w' g d := by
  refine ⟨Nat.lt_of_lt_of_le h.1 l.size, fun j v hv => ?_⟩
  obtain ⟨h1, h2⟩ := h.2 j v hv
  refine ⟨l.cell h1, ?_⟩
  have e := Below.block l g h.1
  unfold World.frozen? at h2 ⊢
  rw [e]
  exact h2
theorem cells3_set {w : World} {g : Nat} {c : List Val3} (h : Cells3 w g c) (k : Nat) (hk : k < c.length) (u : Val3) : Cells3 (w.setCells g (k * 3) (encV u)) g (c.set k u) := by
  refine ⟨Nat.lt_of_lt_of_le h.1 (below_setCells 0 g (Nat.zero_le _) _ _ w w (Below.refl _ _)).size, fun j v hv => ?_⟩
  have hj := (List.getElem?_eq_some_iff.1 hv).1
  rw [fl_length, List.length_set] at hj
  have hq : j / 3 < c.length := by omega
  have e := fl_enc (c.set k u) (j / 3) (by rw [List.length_set]; exact hq) (j % 3) (Nat.mod_lt _ (by decide))
  rw [show j / 3 * 3 + j % 3 = j by omega, hv] at e
  have hin : ∀ i, i < (encV u).length → (w.cell? ⟨g, k * 3 + i, none⟩).isSome = true := by
    intro i hi
    rw [encV_len] at hi
    have e1 := fl_enc c k hk i hi
    rw [List.getElem?_eq_getElem (show i < (encV c[k]).length by rw [encV_len]; exact hi)] at e1
    rw [(h.2 _ _ e1).1]; rfl
  rw [World.frozen?_setCells]
  by_cases hjk : j / 3 = k
  · have h3 : j % 3 < (encV u).length := by rw [encV_len]; exact Nat.mod_lt _ (by decide)
    have e2 := World.cell?_setCells_in g (encV u) (k * 3) w hin (j % 3) h3
    rw [show k * 3 + j % 3 = j by omega] at e2
    have e3 : (c.set k u)[j / 3]'(by rw [List.length_set]; exact hq) = u := by subst hjk; exact List.getElem_set_self _
    rw [e3, List.getElem?_eq_getElem h3] at e
    injection e with e
    have ho := fl_enc c (j / 3) hq (j % 3) (Nat.mod_lt _ (by decide))
    rw [show j / 3 * 3 + j % 3 = j by omega, List.getElem?_eq_getElem (show j % 3 < (encV c[j / 3]).length by rw [encV_len]; exact Nat.mod_lt _ (by decide))] at ho
    exact ⟨by rw [e2, e], (h.2 _ _ ho).2⟩
  · have e3 : (c.set k u)[j / 3]'(by rw [List.length_set]; exact hq) = c[j / 3] := List.getElem_set_ne (fun e => hjk e.symm) _
    rw [e3] at e
    have ho := fl_enc c (j / 3) hq (j % 3) (Nat.mod_lt _ (by decide))
    rw [show j / 3 * 3 + j % 3 = j by omega] at ho
    obtain ⟨a1, a2⟩ := h.2 j v (by rw [ho]; exact e.symm)
    exact ⟨by rw [World.cell?_setCells_out g (encV u) (k * 3) w ⟨g, j, none⟩ (fun _ _ => by rw [encV_len]; show j < k * 3 ∨ k * 3 + 3 ≤ j; omega)]; exact a1, a2⟩
/-- clear, of values. -/
theorem run_clear3 (w : World) (ty : TypeId) (g o n c : Nat) (hn : 0 < n) (hc : ∀ j, j < n * 3 → (w.cell? ⟨g, o + j, none⟩).isSome = true) (hf : ∀ j, j < n * 3 → w.frozen? ⟨g, o + j, none⟩ = false) :
    (Builtin.clear_ #[25] ty #[.slice (some ⟨g, o, none⟩) n c]).run Tryd.prog w = .ok (.tuple #[]) (w.setCells g o (Builtin.zeroCells #[.int .i64 0, .int .i64 0, .string ⟨#[]⟩] n).toList) := by
  have hlen : (Builtin.zeroCells #[.int .i64 0, .int .i64 0, .string ⟨#[]⟩] n).toList.length = n * 3 := by simp [Builtin.zeroCells]
  have hone : ∀ v ∈ (Builtin.zeroCells #[.int .i64 0, .int .i64 0, .string ⟨#[]⟩] n).toList, v.oneCell' = true := by
    intro v hv
    simp [Builtin.zeroCells] at hv
    obtain ⟨i, _, rfl⟩ := hv
    have : i % 3 < 3 := Nat.mod_lt _ (by decide)
    obtain h | h | h : i % 3 = 0 ∨ i % 3 = 1 ∨ i % 3 = 2 := by omega
    all_goals rw [h]; rfl
  have hst := run_storeCells_cells (P := Tryd.prog) g o (Builtin.zeroCells #[.int .i64 0, .int .i64 0, .string ⟨#[]⟩] n).toList 0 w (by rw [hlen]; simpa using hc) (by rw [hlen]; simpa using hf) hone
  simp only [Nat.add_zero] at hst
  obtain ⟨m, rfl⟩ : ∃ m, n = m + 1 := ⟨n - 1, by omega⟩
  have hz : ∀ w, (zeroValue 34).run Tryd.prog w = .ok (vagg 0 0 ⟨#[]⟩) w := Tryd.zeroValue34
  simp [Builtin.clear_, run_underlying Tryd.underlying25, hz, hst, Value.cells]
theorem has_setCells {w : World} {g k : Nat} {c : List Val3} (h : Cells3 w g c) (vs : List Value) (hk : k ≤ c.length) : Has (w.setCells g (k * 3) vs) (some ⟨g, 0, none⟩) (fl (c.take k)) := by
  refine .inr ⟨g, 0, rfl, Nat.lt_of_lt_of_le h.1 (below_setCells 0 g (Nat.zero_le _) _ _ w w (Below.refl _ _)).size, fun j v hv => ?_⟩
  have hj := (List.getElem?_eq_some_iff.1 hv).1
  rw [fl_length, List.length_take] at hj
  rw [fl_take, List.getElem?_take_of_lt (by omega)] at hv
  rw [Nat.zero_add, World.cell?_setCells_out g vs (k * 3) w ⟨g, j, none⟩ (fun _ _ => .inl (by show j < k * 3; omega))]
  exact (h.2 j v hv).1
/-- Where CompactFunc's inner loop stands. -/
def CInv (s : List Val3) (g base k0 n : Nat) (w : World) (kv k2v : Value) (wr : World) : Prop :=
  ∃ (k k2 : Nat) (c : List Val3), kv = .int .i64 k ∧ k2v = .int .i64 k2 ∧ 1 ≤ k2 ∧ k0 + k2 ≤ n ∧ k + 1 ≤ k0 + k2 ∧ 1 ≤ k ∧ k = (unlN s (k0 + k2)).length ∧ c.length = n ∧ c.take k = unlN s (k0 + k2) ∧ c.drop (k0 + k2 - 1) = s.drop (k0 + k2 - 1) ∧ Cells3 wr g c ∧ Below base w wr
theorem CInv.mk {s : List Val3} {g base k0 n : Nat} {w wr : World} (k k2 : Nat) (c : List Val3) (x y : Int) (hx : x = (k : Int)) (hy : y = (k2 : Int)) (h1 : 1 ≤ k2) (h2 : k0 + k2 ≤ n) (h3 : k + 1 ≤ k0 + k2) (h4 : 1 ≤ k) (h5 : k = (unlN s (k0 + k2)).length) (h6 : c.length = n) (h7 : c.take k = unlN s (k0 + k2)) (h8 : c.drop (k0 + k2 - 1) = s.drop (k0 + k2 - 1)) (h9 : Cells3 wr g c) (h10 : Below base w wr) : CInv s g base k0 n w (.int .i64 x) (.int .i64 y) wr := by
  subst hx hy; exact ⟨k, k2, c, rfl, rfl, h1, h2, h3, h4, h5, h6, h7, h8, h9, h10⟩
theorem drop_get_eq {c s : List Val3} {q i : Nat} (h : c.drop q = s.drop q) (hqi : q ≤ i) (hc : i < c.length) (hs : i < s.length) : c[i] = s[i] := by
  have e : (c.drop q)[i - q]? = (s.drop q)[i - q]? := by rw [h]
  rw [List.getElem?_drop, List.getElem?_drop, show q + (i - q) = i by omega, List.getElem?_eq_getElem hc, List.getElem?_eq_getElem hs] at e
  injection e
theorem keeps_iff {s : List Val3} {i : Nat} (hi : i + 1 < s.length) : keepsV s (i + 1) = !(decide (cmp3 s[i + 1] s[i] = 0)) := by
  unfold keepsV
  rw [gv_eq hi, gv_eq (show i + 1 - 1 < s.length by omega)]
  simp

set_option maxRecDepth 100000 in
set_option maxHeartbeats 4000000 in
theorem compact_any (g n cap base : Nat) (s : List Val3) (w : World) (hn : n = s.length) (hg : base ≤ g) (hc : Cells3 w g s) (hcap : n ≤ cap) (hl : n ≤ 100000) :
    Calls Tryd.prog 36 #[.slice (some ⟨g, 0, none⟩) n cap, .func (.func 37) #[] #[]] w fun e w' => ∃ m, e = .returned (.slice (some ⟨g, 0, none⟩) m cap) ∧ m = (unlN s n).length ∧ Has w' (some ⟨g, 0, none⟩) (fl (unlN s n)) ∧ Below base w w' := by
  have eg : ∀ args w, (callFunc 37 args).run Tryd.prog w = .ok (.enter 37 args) w := enters_of Tryd.func37 (by kernel_rfl) rfl
  have mixed : Tryd.prog.follows .mixedOrders = true := by kernel_rfl
  have HN := Lib.hid hn
  have HC0 := Lib.hid hc
  have HG := Lib.hid hg
  have hzero : unlN s s.length = s.take s.length → unlN s s.length = s := fun h => by rw [h, List.take_length]
  by_cases h2 : n < 2
  · have hall : unlN s n = s := by
      rw [hn]; rw [hn] at h2
      refine hzero (unlN_all (Nat.le_refl _) fun i hi => ?_)
      obtain rfl : i = 0 := by omega
      rfl
    have HALL := Lib.hid hall
    have d1 : (n : Int) < 2 := by omega
    clear hn hc hg hzero hall
    go_enter Tryd.func36, Tryd.ntmps36
    go_wp2_with fail
    go_ret
    exact ⟨n, rfl, by rw [HALL.out]; exact HN.out, by rw [HALL.out]; exact HC0.out.has, Below.refl _ _⟩
  · have d1 : ¬ (n : Int) < 2 := by omega
    clear hn hc hg hzero
    go_enter Tryd.func36, Tryd.ntmps36
    go_wp2_with fail
    go_loopw [5] (fun kv wr => ∃ k : Nat, 1 ≤ k ∧ k ≤ n ∧ kv = .int .i64 k ∧ (∀ i, i < k → keepsV s i = true) ∧ Cells3 wr g s ∧ Below base w wr) (fun kv _ => n - (intOf kv).toNat)
    case atStart =>
      refine ⟨1, Nat.le_refl _, by omega, rfl, fun i hi => ?_, HC0.out, Below.refl _ _⟩
      have h0 : i = 0 := by omega
      subst h0
      rfl
    case round =>
      obtain ⟨k, hk1, hkn, rfl, hkeep, hcl, hbel⟩ := hrel
      by_cases hlt : k < n
      · obtain ⟨kp, hkp⟩ : ∃ kp, k = kp + 1 := ⟨k - 1, by omega⟩
        have hks : k < s.length := by have := HN.out; omega
        have hps : kp < s.length := by omega
        obtain ⟨c0, c1, c2, _, _, _⟩ := hcl.get k hks
        obtain ⟨p0, p1, p2, _, _, _⟩ := hcl.get kp hps
        have HCG := Lib.hid (fun (q : Nat) (os : Array Obj) => alike_g s[k] s[kp] (Go.Sort.grow (wr.drewN q) os))
        obtain ⟨bq, hbq⟩ : ∃ bq, bq = decide (cmp3 s[k] s[kp] = 0) := ⟨_, rfl⟩
        rw [← hbq] at HCG
        have HKV := Lib.hid (show keepsV s k = !bq by subst hkp; rw [keeps_iff hks, hbq])
        generalize s[k].1 = xt at c0 HCG
        generalize s[k].2.1 = xi at c1 HCG
        generalize s[k].2.2 = xs at c2 HCG
        generalize s[kp].1 = yt at p0 HCG
        generalize s[kp].2.1 = yi at p1 HCG
        generalize s[kp].2.2 = ys at p2 HCG
        have hgs := hcl.1
        have a0 := fun (q : Nat) (os : Array Obj) => Go.cell_grown (w := wr) hgs c0 q os
        have a1 := fun (q : Nat) (os : Array Obj) => Go.cell_grown (w := wr) hgs c1 q os
        have a2 := fun (q : Nat) (os : Array Obj) => Go.cell_grown (w := wr) hgs c2 q os
        have b0 := fun (q : Nat) (os : Array Obj) => Go.cell_grown (w := wr) hgs p0 q os
        have b1 := fun (q : Nat) (os : Array Obj) => Go.cell_grown (w := wr) hgs p1 q os
        have b2 := fun (q : Nat) (os : Array Obj) => Go.cell_grown (w := wr) hgs p2 q os
        have hki : (k : Int) < (n : Int) := by omega
        have hk0 : (0 : Int) ≤ (k : Int) := by omega
        have hkm : (k : Int) - 1 = (kp : Int) := by omega
        have hkmw : IntKind.i64.wrap ((k : Int) - 1) = (kp : Int) := by rw [hkm]; exact IntWalk.i64_in _ ⟨by omega, by omega⟩
        have hp0 : (0 : Int) ≤ (kp : Int) := by omega
        have hpi : (kp : Int) < (n : Int) := by omega
        have HCL := Lib.hid hcl
        have HBEL := Lib.hid hbel
        have HKEEP := Lib.hid hkeep
        have HKP := Lib.hid hkp
        clear c0 c1 c2 p0 p1 p2 hcl hbel hkeep hkp hbq hps hkm
        cases bq with
        | false =>
          go_wp2_with fail
          go_quiet_grown (first | (go_at_call 37; refine Go.Calls.grown_of (HCG.out _ _)))
          go_wp2_with fail
          go_roundw
          case rel =>
            refine ⟨k + 1, by omega, hlt, by go_num, fun i hi => ?_, HCL.out.later (grow_later _ _ _), HBEL.out.trans ((grow_later wr nq osq).below.mono (by have := HCL.out.1; have := HG.out; omega))⟩
            rcases Nat.lt_or_ge i k with h | h
            · exact HKEEP.out i h
            · obtain rfl : i = k := by omega
              exact HKV.out
          case measure => simp [intOf]; omega
        | true =>
          go_wp2_with fail
          go_quiet_grown (first | (go_at_call 37; refine Go.Calls.grown_of (HCG.out _ _)))
          obtain ⟨wo, hwo⟩ : ∃ wo, wo = Go.Sort.grow (wr.drewN nq) osq := ⟨_, rfl⟩
          have lo : Later wr wo := hwo ▸ grow_later wr nq osq
          have HCO := Lib.hid (HCL.out.later lo)
          have HBO := Lib.hid (HBEL.out.trans (lo.below.mono (by have := HCL.out.1; have := HG.out; omega)))
          rw [← hwo]
          clear hwo lo a0 a1 a2 b0 b1 b2 hgs HCG HCL HBEL hkmw hp0 hpi
          obtain ⟨m2, hm2⟩ : ∃ m2, m2 = n - k := ⟨_, rfl⟩
          have HM2 := Lib.hid hm2
          have j1 : (k : Int) ≤ (n : Int) := by omega
          have j2 : k ≤ n := by omega
          have j3 : ¬ cap = k := by omega
          have j4 : (k : Int) ≤ (cap : Int) := by omega
          clear hm2
          go_wp2_with fail
          rw [← HM2.out]
          go_loopw [5, 7] (fun kv k2v wr => CInv s g base k n w kv k2v wr) (fun _ k2v _ => m2 - (intOf k2v).toNat)
          case atStart =>
            have hu : unlN s (k + 1) = s.take k := by rw [unlN_succ, HKV.out, unlN_all (by omega) HKEEP.out]; simp
            exact CInv.mk k 1 s _ _ rfl rfl (Nat.le_refl _) (by omega) (Nat.le_refl _) hk1 (by rw [hu, List.length_take]; omega) HN.out.symm hu.symm rfl HCO.out HBO.out
          case round =>
            obtain ⟨kk, k2, c, rfl, rfl, h1, h2', h3, h4, h5, h6, h7, h8, hcl, hbel⟩ := hrel
            by_cases hlt2 : k2 < m2
            · obtain ⟨k2p, hk2p⟩ : ∃ k2p, k2 = k2p + 1 := ⟨k2 - 1, by omega⟩
              have ha : k + k2 < n := by have := HM2.out; omega
              have has : k + k2 < s.length := by have := HN.out; omega
              have haps : k + k2p < s.length := by omega
              have hac : k + k2 < c.length := by omega
              have hapc : k + k2p < c.length := by omega
              have eu : c[k + k2] = s[k + k2] := drop_get_eq h8 (by omega) hac has
              have ev : c[k + k2p] = s[k + k2p] := drop_get_eq h8 (by omega) hapc haps
              obtain ⟨c0, c1, c2, _, _, _⟩ := hcl.get (k + k2) hac
              obtain ⟨p0, p1, p2, _, _, _⟩ := hcl.get (k + k2p) hapc
              rw [eu, show (k + k2) * 3 = k * 3 + k2 * 3 by omega] at c0 c1 c2
              rw [ev, show (k + k2p) * 3 = k * 3 + k2p * 3 by omega] at p0 p1 p2
              have HCG := Lib.hid (fun (q : Nat) (os : Array Obj) => alike_g s[k + k2] s[k + k2p] (Go.Sort.grow (wr.drewN q) os))
              obtain ⟨bq, hbq⟩ : ∃ bq, bq = decide (cmp3 s[k + k2] s[k + k2p] = 0) := ⟨_, rfl⟩
              rw [← hbq] at HCG
              have HKV2 := Lib.hid (show keepsV s (k + k2) = !bq by
                subst hk2p
                have := keeps_iff (s := s) (i := k + k2p) (by omega)
                rw [hbq]; exact this)
              obtain ⟨u, hu⟩ : ∃ u, u = s[k + k2] := ⟨_, rfl⟩
              have HGU := Lib.hid (show gv s (k + k2) = u by rw [hu]; exact gv_eq has)
              rw [← hu] at c0 c1 c2 HCG
              obtain ⟨ut, ui, us⟩ := u
              generalize s[k + k2p].1 = yt at p0 HCG
              generalize s[k + k2p].2.1 = yi at p1 HCG
              generalize s[k + k2p].2.2 = ys at p2 HCG
              have hgs := hcl.1
              have a0 := fun (q : Nat) (os : Array Obj) => Go.cell_grown (w := wr) hgs c0 q os
              have a1 := fun (q : Nat) (os : Array Obj) => Go.cell_grown (w := wr) hgs c1 q os
              have a2 := fun (q : Nat) (os : Array Obj) => Go.cell_grown (w := wr) hgs c2 q os
              have b0 := fun (q : Nat) (os : Array Obj) => Go.cell_grown (w := wr) hgs p0 q os
              have b1 := fun (q : Nat) (os : Array Obj) => Go.cell_grown (w := wr) hgs p1 q os
              have b2 := fun (q : Nat) (os : Array Obj) => Go.cell_grown (w := wr) hgs p2 q os
              have q1 : (k2 : Int) < (m2 : Int) := by omega
              have q2 : (0 : Int) ≤ (k2 : Int) := by omega
              have q3 : (k2 : Int) - 1 = (k2p : Int) := by omega
              have q4 : IntKind.i64.wrap ((k2 : Int) - 1) = (k2p : Int) := by rw [q3]; exact IntWalk.i64_in _ ⟨by omega, by omega⟩
              have q5 : (0 : Int) ≤ (k2p : Int) := by omega
              have q6 : (k2p : Int) < (m2 : Int) := by omega
              have q7 : (0 : Int) ≤ (kk : Int) := by omega
              have q8 : (kk : Int) < (n : Int) := by omega
              have HCL := Lib.hid hcl
              have HBEL := Lib.hid hbel
              have H5 := Lib.hid h5
              have H6 := Lib.hid h6
              have H7 := Lib.hid h7
              have H8 := Lib.hid (show c.drop (k + (k2 + 1) - 1) = s.drop (k + (k2 + 1) - 1) by
                have e := congrArg (List.drop 1) h8
                rw [List.drop_drop, List.drop_drop] at e
                rw [show k + (k2 + 1) - 1 = k + k2 - 1 + 1 by omega]
                exact e)
              have HH := Lib.hid (show k + k2 < n ∧ 1 ≤ k2 ∧ kk + 1 ≤ k + k2 ∧ 1 ≤ kk ∧ k2 < m2 from ⟨ha, h1, h3, h4, hlt2⟩)
              clear c0 c1 c2 p0 p1 p2 hcl hbel hbq h5 h6 h7 h8 eu ev hu hk2p q3 haps hapc has hac
              cases bq with
              | true =>
                go_wp2_with fail
                go_quiet_grown (first | (go_at_call 37; refine Go.Calls.grown_of (HCG.out _ _)))
                go_wp2_with fail
                go_roundw
                case rel =>
                  have hu1 : unlN s (k + (k2 + 1)) = unlN s (k + k2) := by rw [← Nat.add_assoc, unlN_succ, HKV2.out]; simp
                  have hh := HH.out
                  exact CInv.mk kk (k2 + 1) c _ _ rfl (by go_num) (by omega) (by omega) (by omega) (by omega) (by rw [hu1]; exact H5.out) H6.out (by rw [hu1]; exact H7.out) H8.out (HCL.out.later (grow_later _ _ _)) (HBEL.out.trans ((grow_later wr nq osq).below.mono (by have := HCL.out.1; have := HG.out; omega)))
                case measure => have hh := HH.out; simp [intOf]; omega
              | false =>
                go_wp2_with fail
                go_quiet_grown (first | (go_at_call 37; refine Go.Calls.grown_of (HCG.out _ _)))
                obtain ⟨wz, hwz⟩ : ∃ wz, wz = Go.Sort.grow (wr.drewN nq) osq := ⟨_, rfl⟩
                have lz : Later wr wz := hwz ▸ grow_later wr nq osq
                have HCZ := Lib.hid (HCL.out.later lz)
                have HBZ := Lib.hid (HBEL.out.trans (lz.below.mono (by have := HCL.out.1; have := HG.out; omega)))
                have u0 := a0 nq osq
                have u1 := a1 nq osq
                have u2 := a2 nq osq
                rw [← hwz] at u0 u1 u2 ⊢
                obtain ⟨o0, o1, o2, f0, f1, f2⟩ := HCZ.out.get kk (by have := H6.out; omega)
                clear hwz lz a0 a1 a2 b0 b1 b2 hgs HCG HCL HBEL
                go_wp2_with fail
                go_roundw
                case rel =>
                  have hh := HH.out
                  have h6 := H6.out
                  have hu1 : unlN s (k + (k2 + 1)) = unlN s (k + k2) ++ [(ut, ui, us)] := by rw [← Nat.add_assoc, unlN_succ, HKV2.out, HGU.out]; rfl
                  refine CInv.mk (kk + 1) (k2 + 1) (c.set kk (ut, ui, us)) _ _ (by go_num) (by go_num) (by omega) (by omega) (by omega) (by omega) (by rw [hu1, List.length_append, ← H5.out]; rfl) (by rw [List.length_set]; exact h6) ?_ ?_ (cells3_set HCZ.out kk (by omega) (ut, ui, us)) (below_setCells base g HG.out (encV (ut, ui, us)) (kk * 3) _ _ HBZ.out)
                  · rw [hu1, ← H7.out, List.take_succ_eq_append_getElem (by rw [List.length_set]; omega), List.take_set_of_le (Nat.le_refl _), List.getElem_set_self]
                  · rw [List.drop_set_of_lt (by omega)]
                    exact H8.out
                case measure => have hh := HH.out; simp [intOf]; omega
            · obtain rfl : k2 = m2 := by have := HM2.out; omega
              have hkn2 : k + k2 = n := by have := HM2.out; omega
              rw [hkn2] at h5 h7
              have hck : kk ≤ c.length := by omega
              have hclr : ∀ ty, (Builtin.clear_ #[25] ty #[.slice (some ⟨g, kk * 3, none⟩) (n - kk) (cap - kk)]).run Tryd.prog wr = .ok (.tuple #[]) (wr.setCells g (kk * 3) (Builtin.zeroCells #[.int .i64 0, .int .i64 0, .string ⟨#[]⟩] (n - kk)).toList) := fun ty => run_clear3 wr ty g (kk * 3) (n - kk) (cap - kk) (by omega) (fun j hj => by
                  have hjl : kk * 3 + j < (fl c).length := by rw [fl_length]; omega
                  rw [(hcl.2 _ _ (List.getElem?_eq_getElem hjl)).1]; rfl) (fun j hj => by
                  have hjl : kk * 3 + j < (fl c).length := by rw [fl_length]; omega
                  exact (hcl.2 _ _ (List.getElem?_eq_getElem hjl)).2)
              have HHAS := Lib.hid (has_setCells hcl (Builtin.zeroCells #[.int .i64 0, .int .i64 0, .string ⟨#[]⟩] (n - kk)).toList hck)
              have HBB := Lib.hid (below_setCells base g HG.out (Builtin.zeroCells #[.int .i64 0, .int .i64 0, .string ⟨#[]⟩] (n - kk)).toList (kk * 3) _ _ hbel)
              have H5 := Lib.hid h5
              have H7 := Lib.hid h7
              have q1 : ¬ (k2 : Int) < (k2 : Int) := by omega
              have q2 : (kk : Int) ≤ (n : Int) := by omega
              have q3 : kk ≤ n := by omega
              have q4 : ¬ cap = kk := by omega
              have q5 : (kk : Int) ≤ (cap : Int) := by omega
              have q6 : (0 : Int) ≤ (kk : Int) := by omega
              have q7 : kk ≤ cap := by omega
              clear hcl hbel h5 h7 h8 h6 hck h1 h2' h3 hlt2 hkn2
              go_wp2_with fail
              go_ret
              exact ⟨kk, rfl, H5.out, by rw [← H7.out]; exact HHAS.out, HBB.out⟩
      · obtain rfl : k = n := by omega
        have hall : unlN s k = s := by
          have h1 := HN.out
          rw [unlN_all (by omega) hkeep, h1, List.take_length]
        have HALL := Lib.hid hall
        have HCL := Lib.hid hcl
        have HBEL := Lib.hid hbel
        clear hkeep hcl hbel hall hlt
        go_wp2_with fail
        go_ret
        exact ⟨k, rfl, by rw [HALL.out]; exact HN.out, by rw [HALL.out]; exact HCL.out.has, HBEL.out⟩
end Go.Proofs.YtfcedbhmbcbiaaaDoor
