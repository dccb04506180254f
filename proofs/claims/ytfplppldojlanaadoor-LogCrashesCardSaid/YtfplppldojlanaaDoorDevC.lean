/- The walk of a device's Write. -/
import Derived.Test.YtfplppldojlanaaDoorDevB
namespace Go.Proofs.YtfplppldojlanaaDoor
open Go.RowKit
set_option linter.unusedVariables false

set_option maxRecDepth 100000 in
set_option maxHeartbeats 1000000 in
/-- What is not written. -/
theorem devWrite_no (base p gs gn B cs cn : Nat) (A : Option Addr) (cf : Nat) (d : D) (i : Int) (A2 : Option Addr) (n c : Nat) (w : World) (h : DA w base p gs gn B cs cn A cf d) (ho : ¬ (0 ≤ i ∧ i < B ∧ n = 128)) :
    Calls Tryd.prog 39 #[dptr p, .int .i64 i, .slice A2 n c] w fun e w' => e = .returned (.bool false) ∧ w' = w := by
  have HBL := Lib.hid (devBlocks_any p gn B cn w h.c1)
  have HO := Lib.hid ho
  clear h ho
  by_cases h1 : i < 0
  · have d1 : decide (i < 0) = true := by simp; omega
    go_enter Tryd.func39, Tryd.ntmps39
    go_wp2_with fail
    go_ret
    exact ⟨rfl, rfl⟩
  · have d1 : decide (i < 0) = false := by simp; omega
    by_cases h2 : (B : Int) ≤ i
    · have d2 : decide ((B : Int) ≤ i) = true := by simp; omega
      go_enter Tryd.func39, Tryd.ntmps39
      go_wp2_with fail
      refine HBL.out.mono ?_
      rintro e w' ⟨rfl, rfl⟩
      go_wp2_with fail
      go_ret
      exact ⟨rfl, rfl⟩
    · have d2 : decide ((B : Int) ≤ i) = false := by simp; omega
      have hn : ¬ n = 128 := by have := HO.out; omega
      have d3 : ((n : Int) != 128) = true := by simp; omega
      go_enter Tryd.func39, Tryd.ntmps39
      go_wp2_with fail
      refine HBL.out.mono ?_
      rintro e w' ⟨rfl, rfl⟩
      go_wp2_with fail
      go_ret
      exact ⟨rfl, rfl⟩

set_option maxRecDepth 100000 in
set_option maxHeartbeats 1000000 in
theorem devWrite_stopped (base p gs gn B cs cn : Nat) (A : Option Addr) (cf : Nat) (d : D) (i : Nat) (A2 : Option Addr) (c : Nat) (w : World) (h : DA w base p gs gn B cs cn A cf d) (hi : i < B) (hs : d.stopped = true) :
    Calls Tryd.prog 39 #[dptr p, .int .i64 i, .slice A2 128 c] w fun e w' => e = .returned (.bool true) ∧ w' = w := by
  have HBL := Lib.hid (devBlocks_any p gn B cn w h.c1)
  have HST := Lib.hid (devStopped_any p d.stops d.left w h.c4 h.c5)
  have hs2 : (d.stops && decide (d.left ≤ 0)) = true := hs
  rw [hs2] at HST
  clear h hs hs2
  go_enter Tryd.func39, Tryd.ntmps39
  go_wp2_with fail
  refine HBL.out.mono ?_
  rintro e w' ⟨rfl, rfl⟩
  go_wp2_with fail
  refine HST.out.mono ?_
  rintro e w' ⟨rfl, rfl⟩
  go_wp2_with fail
  go_ret
  exact ⟨rfl, rfl⟩

theorem DR.drew {w : World} {base p gs gn B cs cn nf cf : Nat} {A : Option Addr} {sure now : List (List Nat)} {fly : List (Nat × List Nat)} {x : Array Value} (h : DR w base p gs gn B cs cn A nf cf sure now fly x) : DR w.drew base p gs gn B cs cn A nf cf sure now fly x := h.later (Later.refl _).drew
theorem DR.fly2 {w W w' : World} {base p gs gn B cs cn nf cf : Nat} {A : Option Addr} {sure now : List (List Nat)} {fly : List (Nat × List Nat)} {x : Array Value} {A' : Option Addr} {c' : Nat} {v : Value} {l : List Nat} {i : Nat} {vs : List Value} (h : DR w base p gs gn B cs cn A nf cf sure now fly x) (hvs : w.ownsRow base 68 2 (.slice A nf cf) nf vs)
    (hvv : ∀ j, (hj : j < fly.length) → vs[j * 2]? = some (.int .i64 (fly[j].1 : Int)) ∧ ∃ v, vs[j * 2 + 1]? = some v ∧ BV w v fly[j].2) (hv : BV w v l) (L : Later w W) (hg : W.grownBy w' (Value.slice A nf cf).ownBlock) (ho : w'.ownsRow base 68 2 (.slice A' (nf + 1) c') (nf + 1) (vs ++ [.int .i64 (i : Int), v])) (hn : A' = none → c' = 0) (hbase : base ≤ w.heap.size) :
    DR w' base p gs gn B cs cn A' (nf + 1) c' sure now (fly ++ [(i, l)]) x ∧ KD w w' ∧ Below base w w' :=
  ⟨DR.fly1 (h.later L) (own_later hvs L) hg (hv.later L) ho hn (fun j hj => by obtain ⟨h6, u, h7, h8⟩ := hvv j hj; exact ⟨h6, u, h7, h8.later L⟩),
    (KD.later L).trans (KD.only hg fun x hx => by obtain ⟨c, hc⟩ := devblk_v (own_later hvs L) x hx; exact ⟨_, _, hc, .inr (.inl rfl)⟩),
    Below.trans (Below.mono L.below hbase) ((Below.refl _ _).grown hg (Nat.le_trans hbase L.size) fun k hk => ((own_later hvs L).lt k hk).1)⟩
theorem DA.of {w : World} {base p gs gn B cs cn nf cf : Nat} {A : Option Addr} {d : D} {x : Array Value} (h : DR w base p gs gn B cs cn A nf cf d.sure d.now d.fly x) (hn : d.fly.length = nf) (hx : x = #[.slice (some ⟨gs, 0, none⟩) B cs, .slice (some ⟨gn, 0, none⟩) B cn, .slice A nf cf, .int .i64 d.writes, .bool d.stops, .int .i64 d.left]) : DA w base p gs gn B cs cn A cf d := by
  subst hn hx; exact h
theorem KD.setp {w : World} {base p gs gn B cs cn nf cf : Nat} {A : Option Addr} {sure now : List (List Nat)} {fly : List (Nat × List Nat)} {x : Array Value} (h : DR w base p gs gn B cs cn A nf cf sure now fly x) (hb : base ≤ w.heap.size) (k : Nat) (v : Value) : KD w (w.setCell ⟨p, k, none⟩ v) ∧ Below base w (w.setCell ⟨p, k, none⟩ v) :=
  ⟨KD.only (row := some p) (only_setCell (World.grownBy.refl _ _) (.inl rfl) v) (fun x hx => by injection hx with hx; subst hx; exact ⟨_, _, h.1, .inr (.inr rfl)⟩),
    (Below.refl _ _).grown (row := some p) (only_setCell (World.grownBy.refl _ _) (.inl rfl) v) hb fun k hk => by injection hk with hk; subst hk; exact h.2.2.2.2.2⟩
theorem info_wr : (Tryd.prog.info? 68).map (fun i => (i.zero, i.size, i.bytes)) = some (some (.agg #[.int .i64 0, .slice none 0 0]), 2, 32) := by kernel_rfl
/-- A block is written. -/
def D.wr (d : D) (i : Nat) (b : List Nat) : D := { d with now := d.now.set i b, fly := d.fly ++ [(i, b)], writes := d.writes + 1, left := wrap64 (d.left - 1) }
/-- A deed is done: the device is d behind it. -/
def DoneP (base p gs gn B : Nat) (d : D) (w w' : World) : Prop := (∃ cs cn A cf, DA w' base p gs gn B cs cn A cf d) ∧ KD w w' ∧ Below base w w'

set_option maxRecDepth 100000 in
set_option maxHeartbeats 4000000 in
theorem devWrite_yes (base p gs gn B cs cn : Nat) (A : Option Addr) (cf : Nat) (d : D) (i : Nat) (A2 : Option Addr) (c : Nat) (b : List Nat) (w : World) (h : DA w base p gs gn B cs cn A cf d) (hi : i < B) (hB : B ≤ 4000) (hs : d.stopped = false) (hb : b.length = 128) (hr : Has w A2 (ints .u8 b)) (h256 : ∀ x ∈ b, x < 256) (hf : d.fly.length ≤ 100000) (hw : d.writes ≤ 100000 ∧ 0 ≤ d.writes) (hbase : base ≤ w.heap.size) (hnil : A2 = none → c = 0) :
    Calls Tryd.prog 39 #[dptr p, .int .i64 i, .slice A2 128 c] w fun e w' => e = .returned (.bool true) ∧ DoneP base p gs gn B (d.wr i b) w w' := by
  have HBL := Lib.hid (devBlocks_any p gn B cn w h.c1)
  have HST := Lib.hid (devStopped_any p d.stops d.left w h.c4 h.c5)
  have hs2 : (d.stops && decide (d.left ≤ 0)) = false := hs
  rw [hs2] at HST
  have HCL := Lib.hid (byteClone_any A2 128 c b w hb.symm (by rw [hb]; decide) hr hnil)
  have H256 := Lib.hid h256
  have HDA := Lib.hid h
  have HBASE := Lib.hid hbase
  have HF := Lib.hid hf
  have HWR := Lib.hid hw
  have hcn := h.2.2.1.cap
  clear h hs hs2 hr h256 hbase hf hb hnil
  go_enter Tryd.func39, Tryd.ntmps39
  go_wp2_with fail
  refine HBL.out.mono ?_
  rintro e w' ⟨rfl, rfl⟩
  go_wp2_with fail
  refine HST.out.mono ?_
  rintro e w' ⟨rfl, rfl⟩
  go_wp2_with fail
  refine HCL.out.mono ?_
  rintro e w2 ⟨CA, cap, rfl, ho, l2⟩
  have hbv := BV.own ho H256.out (own_capmax ho)
  have L3 := Later.new w2 (.cells #[.int .i64 i, .slice CA 128 cap] 68)
  have B3 := Blk.new w2 #[.int .i64 i, .slice CA 128 cap] 68 w2.heap.size rfl
  have HL3 := Lib.hid (l2.trans L3)
  have HD3 := Lib.hid (HDA.out.later HL3.out)
  have HV3 := Lib.hid (hbv.later L3)
  have HB3 := Lib.hid B3
  have u0 := (Blk.new w2 #[.int .i64 0, .slice none 0 0] 68 w2.heap.size rfl).frozen 0
  have u1 := (Blk.new w2 #[.int .i64 0, .slice none 0 0] 68 w2.heap.size rfl).frozen 1
  obtain ⟨w3, hw3⟩ : ∃ x, w2.alloc (.cells #[.int .i64 i, .slice CA 128 cap] 68) = x := ⟨_, rfl⟩
  rw [hw3] at HL3 HD3 HV3 HB3 B3
  obtain ⟨t7, ht7⟩ : ∃ x, w2.heap.size = x := ⟨_, rfl⟩
  rw [ht7] at HB3 B3 u0 u1
  have k1 := HD3.out.c1
  have e0 := B3.cell 0 _ rfl
  have e1 := B3.cell 1 _ rfl
  obtain ⟨v0, hc0, _⟩ := HD3.out.2.2.1.cell i hi
  have hfr : w3.frozen? ⟨gn, i, none⟩ = false := by
    obtain ⟨_, vs, h2, _⟩ := HD3.out.2.2.1
    exact h2.frozenAt i
  clear ho l2 hbv L3 B3 HCL HBL HST
  go_wp2_with fail
  go_region
  have hp4 : KD w3 (w3.setCell ⟨gn, i, none⟩ (.slice CA 128 cap)).drew ∧ Below base w3 (w3.setCell ⟨gn, i, none⟩ (.slice CA 128 cap)).drew := by
    obtain ⟨_, b2, _, _, _, ⟨c2, k2⟩⟩ := DR.gb HD3.out
    have hg : w3.grownBy (w3.setCell ⟨gn, i, none⟩ (.slice CA 128 cap)).drew (some gn) := only_drew (only_setCell (World.grownBy.refl _ _) (.inl rfl) _)
    exact ⟨KD.only hg (fun x hx => by injection hx with hx; subst hx; exact ⟨_, _, k2, .inl rfl⟩), (Below.refl _ _).grown hg (Nat.le_trans HBASE.out HL3.out.size) fun k hk => by injection hk with hk; omega⟩
  have DR4 := Lib.hid ((DR.putn (show DR w3 base p gs gn B cs cn A d.fly.length cf d.sure d.now d.fly _ from HD3.out) i _ _ HV3.out).drew)
  have HV4 := Lib.hid (hp4.1.bv HV3.out)
  have HK4 := Lib.hid hp4
  have B4 : Blk (w3.setCell ⟨gn, i, none⟩ (.slice CA 128 cap)).drew t7 #[.int .i64 i, .slice CA 128 cap] 68 := by
    obtain ⟨_, _, _, _, _, ⟨c2, k2⟩⟩ := DR.gb HD3.out
    exact (HB3.out.far (p := ⟨gn, i, none⟩) (typed_ne HB3.out k2 (by decide)) _).drew
  obtain ⟨w4, hw4⟩ : ∃ x, (w3.setCell ⟨gn, i, none⟩ (.slice CA 128 cap)).drew = x := ⟨_, rfl⟩
  rw [hw4] at DR4 HV4 HK4 B4 ⊢
  obtain ⟨nf, hnf⟩ : ∃ nf, nf = d.fly.length := ⟨_, rfl⟩
  rw [← hnf] at DR4
  have HNF := Lib.hid hnf
  have hnf9 : nf ≤ 100000 := by rw [hnf]; exact HF.out
  obtain ⟨_, hnil4, vs, hvs, hvv⟩ := DR4.out.2.2.2.1
  have OWN := Lib.hid hvs
  have HVV := Lib.hid hvv
  have k2 := DR4.out.1.cell 2 _ rfl
  have f2 := DR4.out.1.frozen 2
  have e0 := B4.cell 0 _ rfl
  have e1 := B4.cell 1 _ rfl
  have PL := DR4.out.1.later (Later.new w4 (.cells #[.int .i64 i, .slice CA 128 cap] 68))
  have k2a := PL.cell 2 _ rfl
  have f2a := PL.frozen 2
  have HLIT := Lib.hid (show Has (w4.alloc (.cells #[.int .i64 i, .slice CA 128 cap] 68)) (some ⟨w4.heap.size, 0, none⟩) [.int .i64 i, .slice CA 128 cap] from Or.inr ⟨w4.heap.size, 0, rfl, (Blk.new w4 #[.int .i64 i, .slice CA 128 cap] 68 w4.heap.size rfl).lt, fun k v hv => by
    rw [Nat.zero_add]
    exact (Blk.new w4 #[.int .i64 i, .slice CA 128 cap] 68 w4.heap.size rfl).cell k v (by simpa using hv)⟩)
  have hb4 := Nat.le_trans HBASE.out (Nat.le_trans HL3.out.size HK4.out.1.2.2.2.1)
  have HBS4 := Lib.hid hb4
  clear hw4 hp4 hnf hvs hvv PL hb4 hnil4 B4 k1 hc0 hfr u0 u1
  go_wp2_with fail
  go_region_law (first
    | (refine step_append_gg (by rfl) (.tmp 39) (.tmp 41) 52 (by rfl) base 68 (.agg #[.int .i64 0, .slice none 0 0]) 2 32 Tryd.underlying52 info_wr rfl (by decide) _ nf vs (by rfl) (own_later OWN.out (by first | exact (Later.refl _).drew.alloc _ | exact ((Later.refl _).alloc _).drew | exact (Later.refl _).alloc _)) _ _ 1 1 [.int .i64 i, .slice CA 128 cap] (by rfl) (by first | exact HLIT.out | exact HLIT.out.later (Later.refl _).drew) (by rfl) (by intro u hu; simp at hu; rcases hu with rfl | rfl <;> rfl) (by unfold maxLen; omega) (by omega) (by first | exact Nat.le_trans HBS4.out (Later.size ((Later.refl _).drew.alloc _)) | exact Nat.le_trans HBS4.out (Later.size ((Later.refl _).alloc _))) ?_; intro A6 c6 w6 o6 g6 b6 n6; have DR6 := Lib.hid (DR.fly2 DR4.out OWN.out HVV.out HV4.out (by first | exact (Later.refl _).drew.alloc _ | exact ((Later.refl _).alloc _).drew | exact (Later.refl _).alloc _) g6 o6 n6 HBS4.out); have k6 := DR6.out.1.1.cell 2 _ rfl; have f6 := DR6.out.1.1.frozen 2; clear o6 g6 b6 n6))
  all_goals
    have hb6 := Nat.le_trans HBS4.out DR6.out.2.1.2.2.2.1
    have K7 := KD.setp DR6.out.1 hb6 2 (.slice A6 (nf + 1) c6)
    have DR7 := Lib.hid (DR6.out.1.setp 2 (.slice A6 (nf + 1) c6))
    have HK7 := Lib.hid (And.intro (DR6.out.2.1.trans K7.1) (DR6.out.2.2.trans K7.2))
    obtain ⟨w7, hw7⟩ : ∃ x, w6.setCell ⟨p, 2, none⟩ (.slice A6 (nf + 1) c6) = x := ⟨_, rfl⟩
    rw [hw7] at DR7 HK7 ⊢
    have k3 : w7.cell? ⟨p, 3, none⟩ = some (.int .i64 d.writes) := DR7.out.1.cell 3 _ rfl
    have f3 := DR7.out.1.frozen 3
    have k5 : w7.cell? ⟨p, 5, none⟩ = some (.int .i64 d.left) := DR7.out.1.cell 5 _ rfl
    have f5 := DR7.out.1.frozen 5
    have hw1 := hw.1
    have hw0 := hw.2
    clear hw7 K7 hb6 k6 f6 k2 f2 k2a f2a e0 e1
    go_wp2_with fail
    go_ret
    have hb7 := Nat.le_trans HBS4.out HK7.out.1.2.2.2.1
    have K8 := KD.setp DR7.out hb7 3 (.int .i64 (d.writes + 1))
    have DR8 := DR7.out.setp 3 (.int .i64 (d.writes + 1))
    have K9 := KD.setp DR8 (Nat.le_trans hb7 K8.1.2.2.2.1) 5 (.int .i64 (wrap64 (d.left - 1)))
    have DR9 := DR8.setp 5 (.int .i64 (wrap64 (d.left - 1)))
    exact ⟨rfl, ⟨_, _, _, _, DA.of (d := d.wr i b) (nf := nf + 1) DR9 (by show (d.fly ++ [(i, b)]).length = _; rw [List.length_append, HNF.out]; rfl) rfl⟩, ((((KD.later HL3.out).trans HK4.out.1).trans HK7.out.1).trans K8.1).trans K9.1, (((Below.mono HL3.out.below HBASE.out).trans HK4.out.2).trans HK7.out.2).trans (K8.2.trans K9.2)⟩
end Go.Proofs.YtfplppldojlanaaDoor
