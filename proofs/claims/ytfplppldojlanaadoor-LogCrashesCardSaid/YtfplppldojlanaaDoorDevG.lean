/- Package dev: Write and Flush again, telling that all stays but the device's own. (tools/gen_devg.py) -/
import Derived.Test.YtfplppldojlanaaDoorDevD
namespace Go.Proofs.YtfplppldojlanaaDoor
open Go.RowKit
set_option linter.unusedVariables false

/-- What a device's deeds leave: all but its two rows, the rows of its writes, and devices. -/
def KG (gs gn : Nat) (w w' : World) : Prop := w'.os = w.os ∧ w'.tape = w.tape ∧ w'.output = w.output ∧ w.heap.size ≤ w'.heap.size ∧ (∀ {z : Nat × Nat} (b : Nat) (cs : Array Value) (ty : TypeId), ty ≠ 24 → ty ≠ 68 → ty ≠ 54 → w.heap[b]? = some (Obj.cells cs ty z) → w'.heap[b]? = w.heap[b]?) ∧ ∀ (b : Nat) (cs : Array Value), b ≠ gs → b ≠ gn → w.heap[b]? = some (Obj.cells cs 24 (0, 0)) → w'.heap[b]? = w.heap[b]?
theorem KG.kd {gs gn : Nat} {w w' : World} (h : KG gs gn w w') : KD w w' := ⟨h.1, h.2.1, h.2.2.1, h.2.2.2.1, h.2.2.2.2.1⟩
theorem KG.of {gs gn : Nat} {w w' : World} (h : KD w w') (k : ∀ (b : Nat) (cs : Array Value), b ≠ gs → b ≠ gn → w.heap[b]? = some (Obj.cells cs 24 (0, 0)) → w'.heap[b]? = w.heap[b]?) : KG gs gn w w' := ⟨h.1, h.2.1, h.2.2.1, h.2.2.2.1, h.2.2.2.2, k⟩
theorem KG.refl {gs gn : Nat} (w : World) : KG gs gn w w := KG.of (KD.refl w) fun _ _ _ _ _ => rfl
theorem KG.trans {gs gn : Nat} {a b c : World} (h : KG gs gn a b) (k : KG gs gn b c) : KG gs gn a c :=
  KG.of (h.kd.trans k.kd) fun x cs h1 h2 hx => (k.2.2.2.2.2 x cs h1 h2 ((h.2.2.2.2.2 x cs h1 h2 hx).trans hx)).trans (h.2.2.2.2.2 x cs h1 h2 hx)
theorem KG.later {gs gn : Nat} {w w' : World} (h : Later w w') : KG gs gn w w' := KG.of (KD.later h) fun b _ _ _ hb => Below.block h b (Array.getElem?_eq_some_iff.1 hb).1
theorem KG.bv {gs gn : Nat} {w w' : World} {v : Value} {l : List Nat} (k : KG gs gn w w') (h : BV w v l) : BV w' v l := k.kd.bv h
theorem KG.only {gs gn : Nat} {w w' : World} {row : Option Nat} (hg : w.grownBy w' row) (hr : ∀ x, row = some x → ∃ (cs : Array Value) (t : TypeId), w.heap[x]? = some (Obj.cells cs t (0, 0)) ∧ (t = 24 ∨ t = 68 ∨ t = 54)) (hs : ∀ (x : Nat) (cs : Array Value), row = some x → w.heap[x]? = some (Obj.cells cs 24 (0, 0)) → x = gs ∨ x = gn) : KG gs gn w w' :=
  KG.of (KD.only hg hr) fun b cs h1 h2 hb => hg.block b (Array.getElem?_eq_some_iff.1 hb).1 (by intro e; rcases hs b cs e.symm hb with h | h; exact h1 h; exact h2 h)
theorem typed_no {w : World} {x : Nat} {cs cs' : Array Value} {t t' : TypeId} {z z2 : Nat × Nat} (h : w.heap[x]? = some (Obj.cells cs t z)) (k : w.heap[x]? = some (Obj.cells cs' t' z2)) (hne : t ≠ t') {P : Prop} : P := by
  rw [h] at k
  injection k with k
  injection k with _ k _
  exact absurd k hne
theorem DR.fly2g {w W w' : World} {base p gs gn B cs cn nf cf : Nat} {A : Option Addr} {sure now : List (List Nat)} {fly : List (Nat × List Nat)} {x : Array Value} {A' : Option Addr} {c' : Nat} {v : Value} {l : List Nat} {i : Nat} {vs : List Value} (h : DR w base p gs gn B cs cn A nf cf sure now fly x) (hvs : w.ownsRow base 68 2 (.slice A nf cf) nf vs)
    (hvv : ∀ j, (hj : j < fly.length) → vs[j * 2]? = some (.int .i64 (fly[j].1 : Int)) ∧ ∃ v, vs[j * 2 + 1]? = some v ∧ BV w v fly[j].2) (hv : BV w v l) (L : Later w W) (hg : W.grownBy w' (Value.slice A nf cf).ownBlock) (ho : w'.ownsRow base 68 2 (.slice A' (nf + 1) c') (nf + 1) (vs ++ [.int .i64 (i : Int), v])) (hn : A' = none → c' = 0) (hbase : base ≤ w.heap.size) :
    DR w' base p gs gn B cs cn A' (nf + 1) c' sure now (fly ++ [(i, l)]) x ∧ KG gs gn w w' ∧ Below base w w' :=
  ⟨DR.fly1 (h.later L) (own_later hvs L) hg (hv.later L) ho hn (fun j hj => by obtain ⟨h6, u, h7, h8⟩ := hvv j hj; exact ⟨h6, u, h7, h8.later L⟩),
    (KG.later L).trans (KG.only hg (fun x hx => by obtain ⟨c, hc⟩ := devblk_v (own_later hvs L) x hx; exact ⟨_, _, hc, .inr (.inl rfl)⟩) (fun x cs hx hb => by obtain ⟨c, hc⟩ := devblk_v (own_later hvs L) x hx; exact typed_no hc hb (by decide))),
    Below.trans (Below.mono L.below hbase) ((Below.refl _ _).grown hg (Nat.le_trans hbase L.size) fun k hk => ((own_later hvs L).lt k hk).1)⟩
theorem KG.setp {w : World} {base p gs gn B cs cn nf cf : Nat} {A : Option Addr} {sure now : List (List Nat)} {fly : List (Nat × List Nat)} {x : Array Value} (h : DR w base p gs gn B cs cn A nf cf sure now fly x) (hb : base ≤ w.heap.size) (k : Nat) (v : Value) : KG gs gn w (w.setCell ⟨p, k, none⟩ v) ∧ Below base w (w.setCell ⟨p, k, none⟩ v) :=
  ⟨KG.only (row := some p) (only_setCell (World.grownBy.refl _ _) (.inl rfl) v) (fun x hx => by injection hx with hx; subst hx; exact ⟨_, _, h.1, .inr (.inr rfl)⟩) (fun y cs hy hb => by injection hy with hy; subst hy; exact typed_no h.1 hb (by decide)),
    (Below.refl _ _).grown (row := some p) (only_setCell (World.grownBy.refl _ _) (.inl rfl) v) hb fun k hk => by injection hk with hk; subst hk; exact h.2.2.2.2.2⟩
def DoneG (base p gs gn B : Nat) (d : D) (w w' : World) : Prop := (∃ cs cn A cf, DA w' base p gs gn B cs cn A cf d) ∧ KG gs gn w w' ∧ Below base w w'

set_option maxRecDepth 100000 in
set_option maxHeartbeats 4000000 in
theorem devWrite_g (base p gs gn B cs cn : Nat) (A : Option Addr) (cf : Nat) (d : D) (i : Nat) (A2 : Option Addr) (c : Nat) (b : List Nat) (w : World) (h : DA w base p gs gn B cs cn A cf d) (hi : i < B) (hB : B ≤ 4000) (hs : d.stopped = false) (hb : b.length = 128) (hr : Has w A2 (ints .u8 b)) (h256 : ∀ x ∈ b, x < 256) (hf : d.fly.length ≤ 100000) (hw : d.writes ≤ 100000 ∧ 0 ≤ d.writes) (hbase : base ≤ w.heap.size) (hnil : A2 = none → c = 0) :
    Calls Tryd.prog 39 #[dptr p, .int .i64 i, .slice A2 128 c] w fun e w' => e = .returned (.bool true) ∧ DoneG base p gs gn B (d.wr i b) w w' := by
  have HBL := Lib.hid (devBlocks_any p gn B cn w h.c1)
  have HST := Lib.hid (devStopped_any p d.stops d.left w h.c4 h.c5)
  have hs2 : (d.stops && decide (d.left ≤ 0)) = false := hs
  rw [hs2] at HST
  have HCL := Lib.hid (byteClone_any A2 128 c b w hb.symm (by rw [hb]; decide) hr hnil)
  have H256 := Lib.hid h256
  have HDA := Lib.hid h
  have HBASE := Lib.hid hbase
  have HF := Lib.hid hf
  have HWR := Lib.hid hw
  have hcn := h.2.2.1.cap
  clear h hs hs2 hr h256 hbase hf hb hnil
  go_enter Tryd.func39, Tryd.ntmps39
  go_wp2_with fail
  refine HBL.out.mono ?_
  rintro e w' ⟨rfl, rfl⟩
  go_wp2_with fail
  refine HST.out.mono ?_
  rintro e w' ⟨rfl, rfl⟩
  go_wp2_with fail
  refine HCL.out.mono ?_
  rintro e w2 ⟨CA, cap, rfl, ho, l2⟩
  have hbv := BV.own ho H256.out (own_capmax ho)
  have L3 := Later.new w2 (.cells #[.int .i64 i, .slice CA 128 cap] 68)
  have B3 := Blk.new w2 #[.int .i64 i, .slice CA 128 cap] 68 w2.heap.size rfl
  have HL3 := Lib.hid (l2.trans L3)
  have HD3 := Lib.hid (HDA.out.later HL3.out)
  have HV3 := Lib.hid (hbv.later L3)
  have HB3 := Lib.hid B3
  have u0 := (Blk.new w2 #[.int .i64 0, .slice none 0 0] 68 w2.heap.size rfl).frozen 0
  have u1 := (Blk.new w2 #[.int .i64 0, .slice none 0 0] 68 w2.heap.size rfl).frozen 1
  obtain ⟨w3, hw3⟩ : ∃ x, w2.alloc (.cells #[.int .i64 i, .slice CA 128 cap] 68) = x := ⟨_, rfl⟩
  rw [hw3] at HL3 HD3 HV3 HB3 B3
  obtain ⟨t7, ht7⟩ : ∃ x, w2.heap.size = x := ⟨_, rfl⟩
  rw [ht7] at HB3 B3 u0 u1
  have k1 := HD3.out.c1
  have e0 := B3.cell 0 _ rfl
  have e1 := B3.cell 1 _ rfl
  obtain ⟨v0, hc0, _⟩ := HD3.out.2.2.1.cell i hi
  have hfr : w3.frozen? ⟨gn, i, none⟩ = false := by
    obtain ⟨_, vs, h2, _⟩ := HD3.out.2.2.1
    exact h2.frozenAt i
  clear ho l2 hbv L3 B3 HCL HBL HST
  go_wp2_with fail
  go_region
  have hp4 : KG gs gn w3 (w3.setCell ⟨gn, i, none⟩ (.slice CA 128 cap)).drew ∧ Below base w3 (w3.setCell ⟨gn, i, none⟩ (.slice CA 128 cap)).drew := by
    obtain ⟨_, b2, _, _, _, ⟨c2, k2⟩⟩ := DR.gb HD3.out
    have hg : w3.grownBy (w3.setCell ⟨gn, i, none⟩ (.slice CA 128 cap)).drew (some gn) := only_drew (only_setCell (World.grownBy.refl _ _) (.inl rfl) _)
    exact ⟨KG.only hg (fun x hx => by injection hx with hx; subst hx; exact ⟨_, _, k2, .inl rfl⟩) (fun y cs hy hb => by injection hy with hy; subst hy; exact .inr rfl), (Below.refl _ _).grown hg (Nat.le_trans HBASE.out HL3.out.size) fun k hk => by injection hk with hk; omega⟩
  have DR4 := Lib.hid ((DR.putn (show DR w3 base p gs gn B cs cn A d.fly.length cf d.sure d.now d.fly _ from HD3.out) i _ _ HV3.out).drew)
  have HV4 := Lib.hid (hp4.1.bv HV3.out)
  have HK4 := Lib.hid hp4
  have B4 : Blk (w3.setCell ⟨gn, i, none⟩ (.slice CA 128 cap)).drew t7 #[.int .i64 i, .slice CA 128 cap] 68 := by
    obtain ⟨_, _, _, _, _, ⟨c2, k2⟩⟩ := DR.gb HD3.out
    exact (HB3.out.far (p := ⟨gn, i, none⟩) (typed_ne HB3.out k2 (by decide)) _).drew
  obtain ⟨w4, hw4⟩ : ∃ x, (w3.setCell ⟨gn, i, none⟩ (.slice CA 128 cap)).drew = x := ⟨_, rfl⟩
  rw [hw4] at DR4 HV4 HK4 B4 ⊢
  obtain ⟨nf, hnf⟩ : ∃ nf, nf = d.fly.length := ⟨_, rfl⟩
  rw [← hnf] at DR4
  have HNF := Lib.hid hnf
  have hnf9 : nf ≤ 100000 := by rw [hnf]; exact HF.out
  obtain ⟨_, hnil4, vs, hvs, hvv⟩ := DR4.out.2.2.2.1
  have OWN := Lib.hid hvs
  have HVV := Lib.hid hvv
  have k2 := DR4.out.1.cell 2 _ rfl
  have f2 := DR4.out.1.frozen 2
  have e0 := B4.cell 0 _ rfl
  have e1 := B4.cell 1 _ rfl
  have PL := DR4.out.1.later (Later.new w4 (.cells #[.int .i64 i, .slice CA 128 cap] 68))
  have k2a := PL.cell 2 _ rfl
  have f2a := PL.frozen 2
  have HLIT := Lib.hid (show Has (w4.alloc (.cells #[.int .i64 i, .slice CA 128 cap] 68)) (some ⟨w4.heap.size, 0, none⟩) [.int .i64 i, .slice CA 128 cap] from Or.inr ⟨w4.heap.size, 0, rfl, (Blk.new w4 #[.int .i64 i, .slice CA 128 cap] 68 w4.heap.size rfl).lt, fun k v hv => by
    rw [Nat.zero_add]
    exact (Blk.new w4 #[.int .i64 i, .slice CA 128 cap] 68 w4.heap.size rfl).cell k v (by simpa using hv)⟩)
  have hb4 := Nat.le_trans HBASE.out (Nat.le_trans HL3.out.size HK4.out.1.2.2.2.1)
  have HBS4 := Lib.hid hb4
  clear hw4 hp4 hnf hvs hvv PL hb4 hnil4 B4 k1 hc0 hfr u0 u1
  go_wp2_with fail
  go_region_law (first
    | (refine step_append_gg (by rfl) (.tmp 39) (.tmp 41) 52 (by rfl) base 68 (.agg #[.int .i64 0, .slice none 0 0]) 2 32 Tryd.underlying52 info_wr rfl (by decide) _ nf vs (by rfl) (own_later OWN.out (by first | exact (Later.refl _).drew.alloc _ | exact ((Later.refl _).alloc _).drew | exact (Later.refl _).alloc _)) _ _ 1 1 [.int .i64 i, .slice CA 128 cap] (by rfl) (by first | exact HLIT.out | exact HLIT.out.later (Later.refl _).drew) (by rfl) (by intro u hu; simp at hu; rcases hu with rfl | rfl <;> rfl) (by unfold maxLen; omega) (by omega) (by first | exact Nat.le_trans HBS4.out (Later.size ((Later.refl _).drew.alloc _)) | exact Nat.le_trans HBS4.out (Later.size ((Later.refl _).alloc _))) ?_; intro A6 c6 w6 o6 g6 b6 n6; have DR6 := Lib.hid (DR.fly2g DR4.out OWN.out HVV.out HV4.out (by first | exact (Later.refl _).drew.alloc _ | exact ((Later.refl _).alloc _).drew | exact (Later.refl _).alloc _) g6 o6 n6 HBS4.out); have k6 := DR6.out.1.1.cell 2 _ rfl; have f6 := DR6.out.1.1.frozen 2; clear o6 g6 b6 n6))
  all_goals
    have hb6 := Nat.le_trans HBS4.out DR6.out.2.1.2.2.2.1
    have K7 := KG.setp DR6.out.1 hb6 2 (.slice A6 (nf + 1) c6)
    have DR7 := Lib.hid (DR6.out.1.setp 2 (.slice A6 (nf + 1) c6))
    have HK7 := Lib.hid (And.intro (DR6.out.2.1.trans K7.1) (DR6.out.2.2.trans K7.2))
    obtain ⟨w7, hw7⟩ : ∃ x, w6.setCell ⟨p, 2, none⟩ (.slice A6 (nf + 1) c6) = x := ⟨_, rfl⟩
    rw [hw7] at DR7 HK7 ⊢
    have k3 : w7.cell? ⟨p, 3, none⟩ = some (.int .i64 d.writes) := DR7.out.1.cell 3 _ rfl
    have f3 := DR7.out.1.frozen 3
    have k5 : w7.cell? ⟨p, 5, none⟩ = some (.int .i64 d.left) := DR7.out.1.cell 5 _ rfl
    have f5 := DR7.out.1.frozen 5
    have hw1 := hw.1
    have hw0 := hw.2
    clear hw7 K7 hb6 k6 f6 k2 f2 k2a f2a e0 e1
    go_wp2_with fail
    go_ret
    have hb7 := Nat.le_trans HBS4.out HK7.out.1.2.2.2.1
    have K8 := KG.setp DR7.out hb7 3 (.int .i64 (d.writes + 1))
    have DR8 := DR7.out.setp 3 (.int .i64 (d.writes + 1))
    have K9 := KG.setp DR8 (Nat.le_trans hb7 K8.1.2.2.2.1) 5 (.int .i64 (wrap64 (d.left - 1)))
    have DR9 := DR8.setp 5 (.int .i64 (wrap64 (d.left - 1)))
    exact ⟨rfl, ⟨_, _, _, _, DA.of (d := d.wr i b) (nf := nf + 1) DR9 (by show (d.fly ++ [(i, b)]).length = _; rw [List.length_append, HNF.out]; rfl) rfl⟩, ((((KG.later HL3.out).trans HK4.out.1).trans HK7.out.1).trans K8.1).trans K9.1, (((Below.mono HL3.out.below HBASE.out).trans HK4.out.2).trans HK7.out.2).trans (K8.2.trans K9.2)⟩
theorem KG.puts {w : World} {base p gs gn B cs cn nf cf : Nat} {A : Option Addr} {sure now : List (List Nat)} {fly : List (Nat × List Nat)} {x : Array Value} (h : DR w base p gs gn B cs cn A nf cf sure now fly x) (hb : base ≤ w.heap.size) (k : Nat) (v : Value) : KG gs gn w (w.setCell ⟨gs, k, none⟩ v) ∧ Below base w (w.setCell ⟨gs, k, none⟩ v) := by
  obtain ⟨b1, _, _, _, ⟨c2, k2⟩, _⟩ := h.gb
  exact ⟨KG.only (row := some gs) (only_setCell (World.grownBy.refl _ _) (.inl rfl) v) (fun x hx => by injection hx with hx; subst hx; exact ⟨_, _, k2, .inl rfl⟩) (fun y cs hy hb => by injection hy with hy; subst hy; exact .inl rfl),
    (Below.refl _ _).grown (row := some gs) (only_setCell (World.grownBy.refl _ _) (.inl rfl) v) hb fun k hk => by injection hk with hk; omega⟩
def FgI (base p gs gn B cs cn : Nat) (A : Option Addr) (nf cf : Nat) (d : D) (x : Array Value) (w : World) (iv : Value) (wr : World) : Prop :=
  ∃ j : Nat, iv = .int .i64 j ∧ j ≤ nf ∧ DR wr base p gs gn B cs cn A nf cf (layAll d.sure (d.fly.take j)) d.now d.fly x ∧ KG gs gn w wr ∧ Below base w wr
theorem FgI.mk {base p gs gn B cs cn nf cf : Nat} {A : Option Addr} {d : D} {x : Array Value} {w wr : World} (a : Int) (j : Nat) (ha : a = (j : Int)) (hj : j ≤ nf) (h1 : DR wr base p gs gn B cs cn A nf cf (layAll d.sure (d.fly.take j)) d.now d.fly x) (h2 : KG gs gn w wr) (h3 : Below base w wr) : FgI base p gs gn B cs cn A nf cf d x w (.int .i64 a) wr := by
  subst ha; exact ⟨j, rfl, hj, h1, h2, h3⟩

set_option maxRecDepth 100000 in
set_option maxHeartbeats 4000000 in
theorem devFlush_g (base p gs gn B cs cn : Nat) (A : Option Addr) (cf : Nat) (d : D) (w : World) (h : DA w base p gs gn B cs cn A cf d) (hB : B ≤ 4000) (hs : d.stopped = false) (hf : d.fly.length ≤ 100000) (hfl : ∀ x ∈ d.fly, x.1 < B) (hbase : base ≤ w.heap.size) :
    Calls Tryd.prog 41 #[dptr p] w fun e w' => e = .returned (.tuple #[]) ∧ DoneG base p gs gn B d.fl w w' := by
  have HST := Lib.hid (devStopped_any p d.stops d.left w h.c4 h.c5)
  have hs2 : (d.stops && decide (d.left ≤ 0)) = false := hs
  rw [hs2] at HST
  obtain ⟨nf, hnf⟩ : ∃ nf, nf = d.fly.length := ⟨_, rfl⟩
  have HNF := Lib.hid hnf
  have HDR := Lib.hid (show DR w base p gs gn B cs cn A nf cf d.sure d.now d.fly #[.slice (some ⟨gs, 0, none⟩) B cs, .slice (some ⟨gn, 0, none⟩) B cn, .slice A nf cf, .int .i64 d.writes, .bool d.stops, .int .i64 d.left] by rw [hnf]; exact h)
  have k2 : w.cell? ⟨p, 2, none⟩ = some (.slice A nf cf) := HDR.out.1.cell 2 _ rfl
  have HFL := Lib.hid hfl
  have HBASE := Lib.hid hbase
  have hnf9 : nf ≤ 100000 := by omega
  have hcs := h.2.1.cap
  clear h hs hs2 hf hfl hnf hbase
  go_enter Tryd.func41, Tryd.ntmps41
  go_wp2_with fail
  refine HST.out.mono ?_
  rintro e w' ⟨rfl, rfl⟩
  go_wp2_with fail
  clear k2
  go_loopw [15] (fun iv wr => FgI base p gs gn B cs cn A nf cf d #[.slice (some ⟨gs, 0, none⟩) B cs, .slice (some ⟨gn, 0, none⟩) B cn, .slice A nf cf, .int .i64 d.writes, .bool d.stops, .int .i64 d.left] w' iv wr) (fun iv _ => nf - (intOf iv).toNat)
  case atStart => exact FgI.mk 0 0 rfl (Nat.zero_le _) HDR.out (KG.refl _) (Below.refl _ _)
  case round =>
    obtain ⟨j, rfl, hj, hdr, hkd, hbl⟩ := hrel
    have HB := Lib.hid hbl
    have HK := Lib.hid hkd
    have HD := Lib.hid hdr
    by_cases hlt : j < nf
    · obtain ⟨ga, v, rfl, c0, c1, hbv, hncf⟩ := hdr.2.2.2.1.get j hlt
      have hjl : j < d.fly.length := by rw [← HNF.out]; exact hlt
      have htk : d.fly.take (j + 1) = d.fly.take j ++ [d.fly[j]] := List.take_succ_eq_append_getElem hjl
      obtain ⟨⟨at_, l⟩, hx⟩ : ∃ x, x = d.fly[j] := ⟨_, rfl⟩
      rw [← hx] at c0 hbv htk
      have c0 : wr.cell? ⟨ga, j * 2, none⟩ = some (.int .i64 (at_ : Int)) := c0
      have hat : at_ < B := HFL.out (at_, l) (by rw [hx]; exact List.getElem_mem _)
      obtain ⟨b, o, cc, rfl, h1, h2, _⟩ := hbv.has
      have L3 := Later.new wr (.cells #[.int .i64 at_, .slice (some ⟨b, o, none⟩) 128 cc] 68)
      have HV3 := Lib.hid (hbv.later L3)
      have D3 := hdr.later L3
      have HD3 := Lib.hid D3
      have HL3 := Lib.hid L3
      have HTK := Lib.hid htk
      have B3 := Blk.new wr #[.int .i64 at_, .slice (some ⟨b, o, none⟩) 128 cc] 68 wr.heap.size rfl
      have u0 := (Blk.new wr #[.int .i64 0, .slice none 0 0] 68 wr.heap.size rfl).frozen 0
      have u1 := (Blk.new wr #[.int .i64 0, .slice none 0 0] 68 wr.heap.size rfl).frozen 1
      obtain ⟨w3, hw3⟩ : ∃ x, wr.alloc (.cells #[.int .i64 at_, .slice (some ⟨b, o, none⟩) 128 cc] 68) = x := ⟨_, rfl⟩
      rw [hw3] at HV3 D3 HD3 HL3 B3
      obtain ⟨t3, ht3⟩ : ∃ x, wr.heap.size = x := ⟨_, rfl⟩
      rw [ht3] at B3 u0 u1
      have e0 := B3.cell 0 _ rfl
      have e1 := B3.cell 1 _ rfl
      have k0 : w3.cell? ⟨p, 0, none⟩ = some (.slice (some ⟨gs, 0, none⟩) B cs) := D3.1.cell 0 _ rfl
      obtain ⟨v0, hc0, hbv0⟩ := D3.2.1.cell at_ hat
      clear hbv0
      have hfr := D3.2.1.frozen at_
      clear hdr hkd hbl hbv hjl htk hx L3 D3 B3
      go_wp2_with fail
      go_region
      have hb3 := Nat.le_trans HBASE.out (Nat.le_trans HK.out.2.2.2.1 HL3.out.size)
      have K5 := KG.puts HD3.out hb3 at_ (.slice (some ⟨b, o, none⟩) 128 cc)
      have D5 := HD3.out.puts at_ _ _ HV3.out
      have HD5 := Lib.hid D5.drew
      have HK5 := Lib.hid (((HK.out.trans (KG.later HL3.out)).trans K5.1).trans (KG.later (Later.refl _).drew))
      have HB5 := Lib.hid (((HB.out.trans (Below.mono HL3.out.below (Nat.le_trans HBASE.out HK.out.2.2.2.1))).trans K5.2).trans (Below.mono (Later.refl _).drew.below (Nat.le_trans hb3 K5.1.2.2.2.1)))
      clear hb3 K5 D5 c0 c1 e0 e1 k0 hc0 hfr u0 u1
      go_wp2_with fail
      go_roundw
      case rel => exact FgI.mk _ (j + 1) (by go_num) hlt (by rw [HTK.out, layAll_snoc]; exact HD5.out) HK5.out HB5.out
      case measure => simp [intOf]; omega
    · obtain rfl : j = nf := by omega
      have k2 := hdr.1.cell 2 _ rfl
      have f2 := hdr.1.frozen 2
      clear hdr hkd hbl
      go_wp2_with fail
      have hb3 := Nat.le_trans HBASE.out HK.out.2.2.2.1
      have K5 := KG.setp HD.out hb3 2 (.slice none 0 0)
      have D5 := (HD.out.setp 2 (.slice none 0 0)).nil_
      rw [List.take_of_length_le (by rw [HNF.out]; exact Nat.le_refl _)] at D5
      go_end0
      exact ⟨rfl, ⟨_, _, _, _, DA.of (d := d.fl) (nf := 0) D5 rfl rfl⟩, HK.out.trans K5.1, HB.out.trans K5.2⟩
end Go.Proofs.YtfplppldojlanaaDoor
