/- The document's device: Write, Flush. -/
import Derived.Test.YtnmldploafpbdaaRefDvB
namespace Go.Proofs.Ytnmldploafpbdaa
open Go.RowKit
set_option linter.unusedVariables false

section
variable {w W w' : World} {base p gs gn B cs cn nf cf : Nat} {A : Option Addr} {sure now : List (List Nat)} {fly : List (Nat × List Nat)} {x : Array Value}
theorem RR.fly2 {A' : Option Addr} {c' : Nat} {l : List Nat} {i : Nat} (h : RR w base p gs gn B cs cn A nf cf sure now fly x) (L : Later w W) (hg : W.grownBy w' (Value.slice A nf cf).ownBlock) (ho : w'.ownsRow base 63 2 (.slice A' (nf + 1) c') (nf + 1) (pendV fly ++ [.int .i64 (i : Int), .string (bstr l)])) (hn : A' = none → c' = 0) (hb : Below base W w') (hbase : base ≤ w.heap.size) :
    RR w' base p gs gn B cs cn A' (nf + 1) c' sure now (fly ++ [(i, l)]) x ∧ KR w w' ∧ Below base w w' :=
  ⟨⟨h.1.app h.2.2.2.1.1 L hg (by decide), own_app h.2.1 h.2.2.2.1.1 L hg (by decide), own_app h.2.2.1 h.2.2.2.1.1 L hg (by decide), ⟨by rw [pendV_snoc]; exact ho, hn⟩, h.2.2.2.2⟩,
    (KR.later L).trans (KR.only hg fun y hy => by obtain ⟨c, hc⟩ := devblk_v (own_later h.2.2.2.1.1 L) y hy; exact ⟨_, _, hc, .inr (.inl rfl)⟩),
    Below.trans (Below.mono L.below hbase) hb⟩
end
set_option maxRecDepth 100000 in
set_option maxHeartbeats 8000000 in
theorem refWrite_yes (base p gs gn B cs cn : Nat) (A : Option Addr) (cf : Nat) (d : D) (i : Nat) (A2 : Option Addr) (c : Nat) (b : List Nat) (w : World) (h : RA w base p gs gn B cs cn A cf d) (hi : i < B) (hB : B ≤ 4000) (hs : d.stopped = false) (hl : d.stops = true → 0 ≤ d.left ∧ d.left ≤ 9223372036854775807) (hb : b.length = 128) (hr : ∀ W, KR w W → Below base w W → Has W A2 (ints .u8 b)) (hf : d.fly.length ≤ 100000) (hw : d.writes ≤ 100000 ∧ 0 ≤ d.writes) (hbase : base ≤ w.heap.size) :
    Calls Try.prog 21 #[dptr p, .int .i64 i, .slice A2 128 c] w fun e w' => e = .returned (.bool true) ∧ DoneR base p B (d.wr i b) w w' := by
  obtain ⟨L, hL⟩ : ∃ L, L = leftR d := ⟨_, rfl⟩
  obtain ⟨L2, hL2⟩ : ∃ L2, L2 = leftR (d.wr i b) := ⟨_, rfl⟩
  have hcase : (L = -1 ∧ L2 = -1) ∨ (1 ≤ L ∧ L ≤ 9223372036854775807 ∧ L2 = L - 1) := by
    rw [hL, hL2]
    unfold leftR D.wr
    unfold D.stopped at hs
    by_cases h0 : d.stops = true
    · right
      have h1 := hl h0
      rw [h0] at hs
      have h2 : ¬ d.left ≤ 0 := by simpa using hs
      simp only [h0, if_true]
      refine ⟨by omega, h1.2, ?_⟩
      unfold wrap64; omega
    · left
      have h0 : d.stops = false := by simpa using h0
      simp [h0]
  have HR := Lib.hid (show RR w base p gs gn B cs cn A d.fly.length cf d.sure d.now d.fly _ from h)
  have HBY := Lib.hid hr
  have HBASE := Lib.hid hbase
  have HB128 := Lib.hid hb
  have HL2 := Lib.hid hL2
  have hcn := own_cap h.2.2.1
  rw [← hL] at HR
  clear h hs hl hr hbase hb hL hL2
  obtain ⟨nf, hnf⟩ : ∃ nf, nf = d.fly.length := ⟨_, rfl⟩
  rw [← hnf] at HR
  have HNF := Lib.hid hnf
  have hnf9 : nf ≤ 100000 := by omega
  have k1 : w.cell? ⟨p, 1, none⟩ = some (.slice (some ⟨gn, 0, none⟩) B cn) := HR.out.1.cell 1 _ rfl
  have k4 : w.cell? ⟨p, 4, none⟩ = some (.int .i64 L) := HR.out.1.cell 4 _ rfl
  have f4 := HR.out.1.frozen 4
  have K4 := KR.setp HR.out HBASE.out 4 (.int .i64 L2)
  have HR4 := Lib.hid (HR.out.setp 4 (.int .i64 L2))
  have HK4 := Lib.hid K4
  obtain ⟨w4, hw4⟩ : ∃ x, w.setCell ⟨p, 4, none⟩ (.int .i64 L2) = x := ⟨_, rfl⟩
  rw [hw4] at HR4 HK4 K4
  have k1' : w4.cell? ⟨p, 1, none⟩ = some (.slice (some ⟨gn, 0, none⟩) B cn) := HR4.out.1.cell 1 _ rfl
  have q4 := conv_str A2 128 c b HB128.out.symm w4 _ (HBY.out w4 K4.1 K4.2).rd
  have q4d := conv_str A2 128 c b HB128.out.symm w4.drew _ ((HBY.out w4 K4.1 K4.2).later (Later.refl _).drew).rd
  have fn := (HR4.out.2.2.1).frozenAt i
  obtain ⟨sn, hsn⟩ : ∃ v, w4.cell? ⟨gn, i, none⟩ = some v := ⟨_, by rw [HR4.out.2.2.1.cellAt i (by omega), strsV_get _ i (by rw [HR4.out.slen.2.1]; exact hi)]⟩
  have K5 : KR w4 (w4.setCell ⟨gn, i, none⟩ (.string (bstr b))).drew ∧ Below base w4 (w4.setCell ⟨gn, i, none⟩ (.string (bstr b))).drew := by
    have h := KR.cell_ HR4.out.2.2.1 (Nat.le_trans HBASE.out K4.1.2.2.2.1) i (.string (bstr b))
    exact ⟨h.1.trans (KR.later (Later.refl _).drew), h.2.drew⟩
  have HR5 := Lib.hid ((HR4.out.putn i b).later (Later.refl _).drew)
  have HK5 := Lib.hid (And.intro (K4.1.trans K5.1) (K4.2.trans K5.2))
  obtain ⟨w5, hw5⟩ : ∃ x, (w4.setCell ⟨gn, i, none⟩ (.string (bstr b))).drew = x := ⟨_, rfl⟩
  rw [hw5] at HR5 HK5 K5
  have hb5 := Nat.le_trans HBASE.out HK5.out.1.2.2.2.1
  have HB5 := Lib.hid hb5
  have q5 := conv_str A2 128 c b HB128.out.symm w5 _ (HBY.out w5 HK5.out.1 HK5.out.2).rd
  have q5d := conv_str A2 128 c b HB128.out.symm w5.drew _ ((HBY.out w5 HK5.out.1 HK5.out.2).later (Later.refl _).drew).rd
  have k2 : w5.cell? ⟨p, 2, none⟩ = some (.slice A nf cf) := HR5.out.1.cell 2 _ rfl
  have f2 := HR5.out.1.frozen 2
  have k2a : (w5.alloc (.cells #[.int .i64 i, .string (bstr b)] 63)).cell? ⟨p, 2, none⟩ = some (.slice A nf cf) := (HR5.out.1.later (Later.new _ _)).cell 2 _ rfl
  clear hnf hf K4 K5 hb5
  have goal2 : ∀ W, W = w5 → W = w5 := fun _ h => h
  have hd1 : decide ((i : Int) < 0) = false := by simp
  have hd2 : decide ((B : Int) ≤ (i : Int)) = false := by simp; omega
  rcases hcase with ⟨hL1, hL3⟩ | ⟨hL1, hL9, hL3⟩
  all_goals
    have HL3 := Lib.hid hL3
    try (rw [hL1] at k4)
    go_enter Try.func21, Try.ntmps21
    go_wp2_with fail
  all_goals
    first
    | (exfalso; omega)
    | skip
  all_goals
    rw [← hL3, hw4]
    clear hL3
    go_region
    try rw [hw5]
    clear hw5 hw4 hsn fn q4 q4d k1' k1 k4 f4
    go_wp2_with fail
    go_region_law (first
      | (refine step_append_gg (by rfl) (.tmp 49) (.tmp 54) 44 (by rfl) base 63 (.agg #[.int .i64 0, .string ⟨#[]⟩]) 2 24 Try.underlying44 info_pe rfl (by decide) _ nf (pendV d.fly) (by rfl) (own_later HR5.out.2.2.2.1.1 (by repeat (first | exact Later.refl _ | apply Later.drew | apply Later.alloc))) _ _ 1 1 [.int .i64 i, .string (bstr b)] (by rfl) (by first | exact has_newg _ [_, _] _ _ (by simp) | exact has_newd _ [_, _] _ _ (by simp)) (by rfl) (by intro u hu; simp at hu; rcases hu with rfl | rfl <;> rfl) (by unfold maxLen; omega) (by omega) (Nat.le_trans HB5.out (Later.size (by repeat (first | exact Later.refl _ | apply Later.drew | apply Later.alloc)))) ?_; intro A6 c6 w6 o6 g6 b6 n6; have R6 := Lib.hid (HR5.out.fly2 (by repeat (first | exact Later.refl _ | apply Later.drew | apply Later.alloc)) g6 o6 n6 b6 HB5.out); have f6 := R6.out.1.1.frozen 2; have k6 := R6.out.1.1.cell 2 _ rfl; clear o6 g6 b6 n6))
  all_goals
    have hb6 := Nat.le_trans HB5.out R6.out.2.1.2.2.2.1
    have K7 := KR.setp R6.out.1 hb6 2 (.slice A6 (nf + 1) c6)
    have R7 := Lib.hid (R6.out.1.setp 2 (.slice A6 (nf + 1) c6))
    have HK7 := Lib.hid (And.intro (R6.out.2.1.trans K7.1) (R6.out.2.2.trans K7.2))
    obtain ⟨w7, hw7⟩ : ∃ x, w6.setCell ⟨p, 2, none⟩ (.slice A6 (nf + 1) c6) = x := ⟨_, rfl⟩
    rw [hw7] at R7 HK7 ⊢
    have k3 : w7.cell? ⟨p, 3, none⟩ = some (.int .i64 d.writes) := R7.out.1.cell 3 _ rfl
    have f3 := R7.out.1.frozen 3
    have hw1 := hw.1
    have hw0 := hw.2
    clear hw7 K7 k6 f6 k2 f2 k2a hb6
    go_wp2_with fail
    go_ret
    have hb7 := Nat.le_trans HB5.out HK7.out.1.2.2.2.1
    have K8 := KR.setp R7.out hb7 3 (.int .i64 (d.writes + 1))
    have R8 := R7.out.setp 3 (.int .i64 (d.writes + 1))
    exact ⟨rfl, ⟨_, _, _, _, _, _, RA.of (d := d.wr i b) (nf := nf + 1) R8 (by show (d.fly ++ [(i, b)]).length = _; rw [List.length_append, HNF.out]; rfl) (by rw [← HL2.out]; rfl)⟩, (HK5.out.1.trans HK7.out.1).trans K8.1, (HK5.out.2.trans HK7.out.2).trans K8.2⟩

set_option maxRecDepth 100000 in
theorem refFlush_stopped (p : Nat) (w : World) (h4 : w.cell? ⟨p, 4, none⟩ = some (.int .i64 0)) :
    Calls Try.prog 12 #[dptr p] w fun e w' => e = .returned (.tuple #[]) ∧ w' = w := by
  go_enter Try.func12, Try.ntmps12
  go_wp2_with fail
  go_end0
  exact ⟨rfl, rfl⟩
set_option maxRecDepth 100000 in
set_option maxHeartbeats 4000000 in
theorem refFlush_yes (base p gs gn B cs cn : Nat) (A : Option Addr) (cf : Nat) (d : D) (w : World) (h : RA w base p gs gn B cs cn A cf d) (hB : 1 ≤ B ∧ B ≤ 4000) (hne : leftR d ≠ 0) (hnow : layAll d.sure d.fly = d.now) (hbase : base ≤ w.heap.size) :
    Calls Try.prog 12 #[dptr p] w fun e w' => e = .returned (.tuple #[]) ∧ DoneR base p B d.fl w w' := by
  have HR := Lib.hid (show RR w base p gs gn B cs cn A d.fly.length cf d.sure d.now d.fly _ from h)
  obtain ⟨L, hL⟩ : ∃ L, L = leftR d := ⟨_, rfl⟩
  rw [← hL] at HR hne
  have HL := Lib.hid hL
  have k4 : w.cell? ⟨p, 4, none⟩ = some (.int .i64 L) := HR.out.1.cell 4 _ rfl
  have hd : ((L : Int) != 0) = true := by simpa using hne
  have L1 := Later.new w (.cells ([] : List Value).toArray 9)
  have OW := Lib.hid ((Blk.new w ([] : List Value).toArray 9 _ rfl).ownG (base := w.heap.size) (size := 1) (n := 0) (Nat.le_refl _) rfl (by decide))
  have HH := Lib.hid ((Has.own HR.out.2.2.1).later L1)
  have HL1 := Lib.hid L1
  have k1 : (w.alloc (.cells ([] : List Value).toArray 9)).cell? ⟨p, 1, none⟩ = some (.slice (some ⟨gn, 0, none⟩) B cn) := (HR.out.1.later L1).cell 1 _ rfl
  have HLN := Lib.hid HR.out.slen.2.1
  have HBASE := Lib.hid hbase
  have HNOW := Lib.hid hnow
  have HB1 := Lib.hid hB.1
  have hB4 := hB.2
  clear h L1 hne hL hbase hnow hB
  go_enter Try.func12, Try.ntmps12
  go_wp2_with (at_builtin; refine wpList_append_rd _ rfl (.tmp 9) (.tmp 13) 43 rfl w.heap.size 9 (.string ⟨#[]⟩) 16 Try.underlying43 info_st rfl _ 0 [] rfl OW.out _ (some ⟨gn, 0, none⟩) B cn (strsV d.now) rfl HH.out.rd (by rw [strsV_len]; exact HLN.out.symm) (by intro h; cases h) (strsV_one _) (by unfold maxLen; omega) (by omega) ?_ ?_; (exact HL1.out.size); intro A2 c2 w6 o2 g2 b2 n2; simp only [Nat.zero_add, List.nil_append] at o2; have HO2 := Lib.hid o2; have HB6 := Lib.hid (Later.of (HL1.out.below.trans b2)); have HP6 := Lib.hid (HR.out.later HB6.out); have f6 := HP6.out.1.frozen 0; have k6 := HP6.out.1.cell 0 _ rfl; have f7 := (HP6.out.1.set_ 0 (.slice A2 B c2)).frozen 2; have k7 := (HP6.out.1.set_ 0 (.slice A2 B c2)).cell 2 _ rfl; clear o2 g2 b2 n2)
  obtain ⟨gn2, rfl⟩ := own_some HO2.out HB1.out
  have hg2 := HO2.out.lt gn2 rfl
  have hgn := HR.out.gb.2.2.2.1
  have hb6 := Nat.le_trans HBASE.out HB6.out.size
  have R6 : RR w6 base p gn2 gn B c2 cn A d.fly.length cf d.now d.now d.fly _ := ⟨HP6.out.1, own_mono HO2.out HBASE.out, HP6.out.2.2.1, HP6.out.2.2.2.1, by omega, HP6.out.2.2.2.2.2⟩
  have K7 := KR.setp R6 hb6 0 (.slice (some ⟨gn2, 0, none⟩) B c2)
  have R7 := R6.setp 0 (.slice (some ⟨gn2, 0, none⟩) B c2)
  have hb7 := Nat.le_trans hb6 K7.1.2.2.2.1
  have K8 := KR.setp R7 hb7 2 (.slice none 0 0)
  have R8 := (R7.setp 2 (.slice none 0 0)).nil_
  go_end0
  exact ⟨rfl, ⟨_, _, _, _, _, _, RA.of (d := d.fl) (nf := 0) (by show RR _ _ _ _ _ _ _ _ _ _ _ (layAll d.sure d.fly) d.now [] _; rw [HNOW.out]; exact R8) rfl (by show _ = #[_, _, _, _, Value.int .i64 (leftR d)]; rw [← HL.out]; rfl)⟩, ((KR.later HB6.out).trans K7.1).trans K8.1, ((Below.mono HB6.out.below HBASE.out).trans K7.2).trans K8.2⟩
end Go.Proofs.Ytnmldploafpbdaa
