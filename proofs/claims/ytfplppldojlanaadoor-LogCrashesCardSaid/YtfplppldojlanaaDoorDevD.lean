/- The walks of a device's Flush and Stop. -/
import Derived.Test.YtfplppldojlanaaDoorDevC
namespace Go.Proofs.YtfplppldojlanaaDoor
open Go.RowKit
set_option linter.unusedVariables false

theorem FL.get {w : World} {base n c : Nat} {A : Option Addr} {F : List (Nat × List Nat)} (h : FL w base A n c F) (j : Nat) (hj : j < n) : ∃ ga v, A = some ⟨ga, 0, none⟩ ∧ w.cell? ⟨ga, j * 2, none⟩ = some (.int .i64 ((F[j]'(by rw [h.1]; exact hj)).1 : Int)) ∧ w.cell? ⟨ga, j * 2 + 1, none⟩ = some v ∧ BV w v (F[j]'(by rw [h.1]; exact hj)).2 ∧ n ≤ c := by
  obtain ⟨h1, h0, vs, h2, h3⟩ := h
  obtain ⟨h4, v, h5, h6⟩ := h3 j (by omega)
  obtain ⟨ga, rfl⟩ : ∃ ga, A = some ⟨ga, 0, none⟩ := by
    rcases h2.2 with ⟨h7, _⟩ | ⟨g, _, _, h7, _⟩
    · injection h7 with _ h7; omega
    · injection h7 with h7; exact ⟨g, h7⟩
  exact ⟨ga, v, rfl, by rw [h2.cellAt _ (by omega), h4], by rw [h2.cellAt _ (by omega), h5], h6, ownG_cap h2⟩
/-- All writes so far laid on the sure blocks. -/
def layAll (s : List (List Nat)) (F : List (Nat × List Nat)) : List (List Nat) := F.foldl (fun s x => s.set x.1 x.2) s
theorem layAll_len (s : List (List Nat)) (F : List (Nat × List Nat)) : (layAll s F).length = s.length := by
  induction F generalizing s with
  | nil => rfl
  | cons x t ih => show (layAll (s.set x.1 x.2) t).length = _; rw [ih, List.length_set]
theorem layAll_snoc (s : List (List Nat)) (F : List (Nat × List Nat)) (x : Nat × List Nat) : layAll s (F ++ [x]) = (layAll s F).set x.1 x.2 := by
  unfold layAll; rw [List.foldl_append]; rfl
def D.fl (d : D) : D := { d with sure := layAll d.sure d.fly, fly := [] }
theorem DR.nil_ {w : World} {base p gs gn B cs cn nf cf : Nat} {A : Option Addr} {sure now : List (List Nat)} {fly : List (Nat × List Nat)} {x : Array Value} (h : DR w base p gs gn B cs cn A nf cf sure now fly x) : DR w base p gs gn B cs cn none 0 0 sure now [] x :=
  ⟨h.1, h.2.1, h.2.2.1, ⟨rfl, fun _ => rfl, [], ownG_nil _ _ _ _, fun i hi => absurd hi (Nat.not_lt_zero _)⟩, h.2.2.2.2⟩
theorem KD.puts {w : World} {base p gs gn B cs cn nf cf : Nat} {A : Option Addr} {sure now : List (List Nat)} {fly : List (Nat × List Nat)} {x : Array Value} (h : DR w base p gs gn B cs cn A nf cf sure now fly x) (hb : base ≤ w.heap.size) (k : Nat) (v : Value) : KD w (w.setCell ⟨gs, k, none⟩ v) ∧ Below base w (w.setCell ⟨gs, k, none⟩ v) := by
  obtain ⟨b1, _, _, _, ⟨c2, k2⟩, _⟩ := h.gb
  exact ⟨KD.only (row := some gs) (only_setCell (World.grownBy.refl _ _) (.inl rfl) v) (fun x hx => by injection hx with hx; subst hx; exact ⟨_, _, k2, .inl rfl⟩),
    (Below.refl _ _).grown (row := some gs) (only_setCell (World.grownBy.refl _ _) (.inl rfl) v) hb fun k hk => by injection hk with hk; omega⟩
theorem SR.frozen {w : World} {base g n c : Nat} {L : List (List Nat)} (h : SR w base g n c L) (i : Nat) : w.frozen? ⟨g, i, none⟩ = false := by
  obtain ⟨_, vs, h2, _⟩ := h
  exact h2.frozenAt i

def FlI (base p gs gn B cs cn : Nat) (A : Option Addr) (nf cf : Nat) (d : D) (x : Array Value) (w : World) (iv : Value) (wr : World) : Prop :=
  ∃ j : Nat, iv = .int .i64 j ∧ j ≤ nf ∧ DR wr base p gs gn B cs cn A nf cf (layAll d.sure (d.fly.take j)) d.now d.fly x ∧ KD w wr ∧ Below base w wr
theorem FlI.mk {base p gs gn B cs cn nf cf : Nat} {A : Option Addr} {d : D} {x : Array Value} {w wr : World} (a : Int) (j : Nat) (ha : a = (j : Int)) (hj : j ≤ nf) (h1 : DR wr base p gs gn B cs cn A nf cf (layAll d.sure (d.fly.take j)) d.now d.fly x) (h2 : KD w wr) (h3 : Below base w wr) : FlI base p gs gn B cs cn A nf cf d x w (.int .i64 a) wr := by
  subst ha; exact ⟨j, rfl, hj, h1, h2, h3⟩

set_option maxRecDepth 100000 in
set_option maxHeartbeats 4000000 in
theorem devFlush_any (base p gs gn B cs cn : Nat) (A : Option Addr) (cf : Nat) (d : D) (w : World) (h : DA w base p gs gn B cs cn A cf d) (hB : B ≤ 4000) (hs : d.stopped = false) (hf : d.fly.length ≤ 100000) (hfl : ∀ x ∈ d.fly, x.1 < B) (hbase : base ≤ w.heap.size) :
    Calls Tryd.prog 41 #[dptr p] w fun e w' => e = .returned (.tuple #[]) ∧ DoneP base p gs gn B d.fl w w' := by
  have HST := Lib.hid (devStopped_any p d.stops d.left w h.c4 h.c5)
  have hs2 : (d.stops && decide (d.left ≤ 0)) = false := hs
  rw [hs2] at HST
  obtain ⟨nf, hnf⟩ : ∃ nf, nf = d.fly.length := ⟨_, rfl⟩
  have HNF := Lib.hid hnf
  have HDR := Lib.hid (show DR w base p gs gn B cs cn A nf cf d.sure d.now d.fly #[.slice (some ⟨gs, 0, none⟩) B cs, .slice (some ⟨gn, 0, none⟩) B cn, .slice A nf cf, .int .i64 d.writes, .bool d.stops, .int .i64 d.left] by rw [hnf]; exact h)
  have k2 : w.cell? ⟨p, 2, none⟩ = some (.slice A nf cf) := HDR.out.1.cell 2 _ rfl
  have HFL := Lib.hid hfl
  have HBASE := Lib.hid hbase
  have hnf9 : nf ≤ 100000 := by omega
  have hcs := h.2.1.cap
  clear h hs hs2 hf hfl hnf hbase
  go_enter Tryd.func41, Tryd.ntmps41
  go_wp2_with fail
  refine HST.out.mono ?_
  rintro e w' ⟨rfl, rfl⟩
  go_wp2_with fail
  clear k2
  go_loopw [15] (fun iv wr => FlI base p gs gn B cs cn A nf cf d #[.slice (some ⟨gs, 0, none⟩) B cs, .slice (some ⟨gn, 0, none⟩) B cn, .slice A nf cf, .int .i64 d.writes, .bool d.stops, .int .i64 d.left] w' iv wr) (fun iv _ => nf - (intOf iv).toNat)
  case atStart => exact FlI.mk 0 0 rfl (Nat.zero_le _) HDR.out (KD.refl _) (Below.refl _ _)
  case round =>
    obtain ⟨j, rfl, hj, hdr, hkd, hbl⟩ := hrel
    have HB := Lib.hid hbl
    have HK := Lib.hid hkd
    have HD := Lib.hid hdr
    by_cases hlt : j < nf
    · obtain ⟨ga, v, rfl, c0, c1, hbv, hncf⟩ := hdr.2.2.2.1.get j hlt
      have hjl : j < d.fly.length := by rw [← HNF.out]; exact hlt
      have htk : d.fly.take (j + 1) = d.fly.take j ++ [d.fly[j]] := List.take_succ_eq_append_getElem hjl
      obtain ⟨⟨at_, l⟩, hx⟩ : ∃ x, x = d.fly[j] := ⟨_, rfl⟩
      rw [← hx] at c0 hbv htk
      have c0 : wr.cell? ⟨ga, j * 2, none⟩ = some (.int .i64 (at_ : Int)) := c0
      have hat : at_ < B := HFL.out (at_, l) (by rw [hx]; exact List.getElem_mem _)
      obtain ⟨b, o, cc, rfl, h1, h2, _⟩ := hbv.has
      have L3 := Later.new wr (.cells #[.int .i64 at_, .slice (some ⟨b, o, none⟩) 128 cc] 68)
      have HV3 := Lib.hid (hbv.later L3)
      have D3 := hdr.later L3
      have HD3 := Lib.hid D3
      have HL3 := Lib.hid L3
      have HTK := Lib.hid htk
      have B3 := Blk.new wr #[.int .i64 at_, .slice (some ⟨b, o, none⟩) 128 cc] 68 wr.heap.size rfl
      have u0 := (Blk.new wr #[.int .i64 0, .slice none 0 0] 68 wr.heap.size rfl).frozen 0
      have u1 := (Blk.new wr #[.int .i64 0, .slice none 0 0] 68 wr.heap.size rfl).frozen 1
      obtain ⟨w3, hw3⟩ : ∃ x, wr.alloc (.cells #[.int .i64 at_, .slice (some ⟨b, o, none⟩) 128 cc] 68) = x := ⟨_, rfl⟩
      rw [hw3] at HV3 D3 HD3 HL3 B3
      obtain ⟨t3, ht3⟩ : ∃ x, wr.heap.size = x := ⟨_, rfl⟩
      rw [ht3] at B3 u0 u1
      have e0 := B3.cell 0 _ rfl
      have e1 := B3.cell 1 _ rfl
      have k0 : w3.cell? ⟨p, 0, none⟩ = some (.slice (some ⟨gs, 0, none⟩) B cs) := D3.1.cell 0 _ rfl
      obtain ⟨v0, hc0, hbv0⟩ := D3.2.1.cell at_ hat
      clear hbv0
      have hfr := D3.2.1.frozen at_
      clear hdr hkd hbl hbv hjl htk hx L3 D3 B3
      go_wp2_with fail
      go_region
      have hb3 := Nat.le_trans HBASE.out (Nat.le_trans HK.out.2.2.2.1 HL3.out.size)
      have K5 := KD.puts HD3.out hb3 at_ (.slice (some ⟨b, o, none⟩) 128 cc)
      have D5 := HD3.out.puts at_ _ _ HV3.out
      have HD5 := Lib.hid D5.drew
      have HK5 := Lib.hid (((HK.out.trans (KD.later HL3.out)).trans K5.1).trans (KD.later (Later.refl _).drew))
      have HB5 := Lib.hid (((HB.out.trans (Below.mono HL3.out.below (Nat.le_trans HBASE.out HK.out.2.2.2.1))).trans K5.2).trans (Below.mono (Later.refl _).drew.below (Nat.le_trans hb3 K5.1.2.2.2.1)))
      clear hb3 K5 D5 c0 c1 e0 e1 k0 hc0 hfr u0 u1
      go_wp2_with fail
      go_roundw
      case rel => exact FlI.mk _ (j + 1) (by go_num) hlt (by rw [HTK.out, layAll_snoc]; exact HD5.out) HK5.out HB5.out
      case measure => simp [intOf]; omega
    · obtain rfl : j = nf := by omega
      have k2 := hdr.1.cell 2 _ rfl
      have f2 := hdr.1.frozen 2
      clear hdr hkd hbl
      go_wp2_with fail
      have hb3 := Nat.le_trans HBASE.out HK.out.2.2.2.1
      have K5 := KD.setp HD.out hb3 2 (.slice none 0 0)
      have D5 := (HD.out.setp 2 (.slice none 0 0)).nil_
      rw [List.take_of_length_le (by rw [HNF.out]; exact Nat.le_refl _)] at D5
      go_end0
      exact ⟨rfl, ⟨_, _, _, _, DA.of (d := d.fl) (nf := 0) D5 rfl rfl⟩, HK.out.trans K5.1, HB.out.trans K5.2⟩

/-- So many writes are done, and no other. -/
def D.st (d : D) (n : Int) : D := { d with stops := decide (0 ≤ n), left := n }
set_option maxRecDepth 100000 in
set_option maxHeartbeats 1000000 in
theorem devStop_any (base p gs gn B cs cn : Nat) (A : Option Addr) (cf : Nat) (d : D) (n : Int) (w : World) (h : DA w base p gs gn B cs cn A cf d) (hbase : base ≤ w.heap.size) :
    Calls Tryd.prog 13 #[dptr p, .int .i64 n] w fun e w' => e = .returned (.tuple #[]) ∧ DoneP base p gs gn B (d.st n) w w' := by
  have HDR := Lib.hid (show DR w base p gs gn B cs cn A d.fly.length cf d.sure d.now d.fly _ from h)
  have k4 := h.c4
  have k5 := h.c5
  have f4 := h.1.frozen 4
  have f5 := h.1.frozen 5
  have HBASE := Lib.hid hbase
  clear h hbase
  go_enter Tryd.func13, Tryd.ntmps13
  go_wp2_with fail
  have K5 := KD.setp HDR.out HBASE.out 4 (.bool (decide (0 ≤ n)))
  have D5 := HDR.out.setp 4 (.bool (decide (0 ≤ n)))
  have K6 := KD.setp D5 (Nat.le_trans HBASE.out K5.1.2.2.2.1) 5 (.int .i64 n)
  have D6 := D5.setp 5 (.int .i64 n)
  go_end0
  exact ⟨rfl, ⟨_, _, _, _, DA.of (d := d.st n) (nf := d.fly.length) D6 rfl rfl⟩, K5.1.trans K6.1, K5.2.trans K6.2⟩
end Go.Proofs.YtfplppldojlanaaDoor
