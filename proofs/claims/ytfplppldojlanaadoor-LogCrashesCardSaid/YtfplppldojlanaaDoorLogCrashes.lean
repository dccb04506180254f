/- LogCrashes. (tools/gen_logcr.py) -/
import Derived.Test.YtfplppldojlanaaDoorLogV
import Derived.Test.YtfplppldojlanaaDoorLogR
import Derived.Test.YtfplppldojlanaaDoorKripke
namespace Go.Proofs.YtfplppldojlanaaDoor
open Go.RowKit
set_option linter.unusedVariables false

/-- append at a step of a region, of a slice that may be nothing. -/
theorem step_append_nl {P : Program} {w : World} {ops : Array Oper} {o : Oper} {a : Act} {K : Act → World → Prop} {Q : Exit → Act → World → Prop} {E : Prop} (hgd : o.guard = none) (s x : Operand) (t : TypeId)
    (ho : o.op = .call { callee := .builtin .append, args := #[s, x], argTypes := #[t, t] })
    (base : Nat) (e : TypeId) (z : Value) (size bytes : Nat) (ht : P.underlying t = some (.slice e)) (hinfo : (P.info? e).map (fun i => (i.zero, i.size, i.bytes)) = some (some z, size, bytes)) (hzs : z.cells.size = size) (hsz0 : 0 < size)
    (v : Value) (n : Nat) (xs : List Value) (hs : a.eval s = v) (hown : w.ownsRow base e size v n xs)
    (A : Option Addr) (m c : Nat) (news : List Value) (hx : a.eval x = .slice A m c) (hr : Has w A news) (hm : news.length = m * size) (hnil : A = none → c = 0) (h1 : ∀ u ∈ news, u.oneCell' = true)
    (h63 : n + m ≤ maxLen) (hbytes : (n + m) * bytes ≤ 140737488355328) (hbase : base ≤ w.heap.size)
    (h : ∀ A' c' w', w'.ownsRow base e size (.slice A' (n + m) c') (n + m) (xs ++ news) → w.grownBy w' v.ownBlock → Below base w w' → (A' = none → c' = 0) → K (a.put o.dst (.slice A' (n + m) c')) w') :
    if Region.wanted o (yielded ops a.tmps) = true then Oper.wp P o a w K Q else E := by
  have hw : Region.wanted o (yielded ops a.tmps) = true := by simp [Region.wanted, hgd]
  rcases A with _ | ad
  · have hn : news = [] := by
      rcases hr with h | ⟨b, off, h, _⟩
      · exact h
      · cases h
    subst hn
    have hm0 : m = 0 := by
      rcases Nat.eq_zero_or_pos m with h | h
      · exact h
      · have := Nat.mul_pos h hsz0
        rw [← hm] at this
        simp at this
    subst hm0
    have hc0 := hnil rfl
    subst hc0
    obtain ⟨A', c', hv, hc'⟩ := ownG_shape hown
    subst hv
    rw [if_pos hw]
    obtain ⟨i, hi, hz, hsz, hby⟩ := info_parts hinfo
    have hrun := run_append_owned_none (P := P) (w := w) base t o.type e i size ht hi _ n xs hown
    unfold Oper.wp execOp
    simp only [ho, resolve, invoke, builtin, Sem.run_bind, Sem.run_pure, Result.andThen_ok, List.map_toArray, List.map_cons, List.map_nil, hs, hx, hrun]
    exact h A' c' w (by simpa using hown) (World.grownBy.refl _ _) (Below.refl _ _) hc'
  · rcases hr with h0 | ⟨b, off, e1, hb, hc⟩
    · subst h0
      rw [if_pos hw]
      obtain ⟨i, hi, hz, hsz, hby⟩ := info_parts hinfo
      obtain ⟨v', w', hrun, h2, h3, _, hat⟩ := run_append_own_at (P := P) w base t o.type e i z size bytes ht hi hz hsz hby hzs hsz0 v n xs hown ad m c [] hm (fun j u hu => by simp at hu) h1 h63 hbytes hbase
      obtain ⟨A', c', hv, hc'⟩ := ownG_shape h2
      subst hv
      unfold Oper.wp execOp
      simp only [ho, resolve, invoke, builtin, Sem.run_bind, Sem.run_pure, Result.andThen_ok, List.map_toArray, List.map_cons, List.map_nil, hs, hx, hrun]
      exact h A' c' w' h2 h3 ((Below.refl _ _).grown h3 hbase fun k hk => (hown.lt k hk).1) hc'
    · injection e1 with e1
      subst e1
      exact step_append_gg hgd s x t ho base e z size bytes ht hinfo hzs hsz0 v n xs hs hown b off m c news hx (.inr ⟨b, off, rfl, hb, hc⟩) hm h1 h63 hbytes hbase h
theorem DW.flat {B f n f' : Nat} {d : D} (h : DW B f n d) (hf : d.fly = []) : DW B f' n d := ⟨by rw [hf]; exact Nat.zero_le _, h.at_, h.lo, h.hi⟩
/-- Whatever a crash leaves, it is one or the other. -/
def Safe (area N : Nat) (H O : List (List Nat)) (δ : D) : Prop := ∀ keep torn at_, ∃ g R, Seen area g R (δ.cr keep torn at_).now ∧ 1 ≤ g ∧ g ≤ N ∧ (R = H ∨ R = O)
/-- A device that runs. -/
def Runs (area g used : Nat) (H : List (List Nat)) (δ : D) : Prop := δ.fly = [] ∧ δ.sure = δ.now ∧ used = sumN H ∧ Lg area g H δ.now
/-- Where LogCrashes' loop stands. -/
def CrP (W1 : World) (p gs gn B q area wb N : Nat) (hv ov iv : Value) (wr : World) : Prop :=
  ∃ (i g used wn hc oc : Nat) (HA OA : Option Addr) (hs os : List SlB) (δ : D), hv = .slice HA hs.length hc ∧ ov = .slice OA os.length oc ∧ iv = .int .i64 i ∧ i ≤ N ∧
    Tab W1 wr wb HA hs.length hc hs ∧ Tab W1 wr wb OA os.length oc os ∧ LT W1.heap.size p gs gn B q area g used 60 wn δ wr wr ∧ g ≤ 2 + i ∧ 1 ≤ g ∧ used ≤ area ∧ wn ≤ 300 + 60 * i ∧
    sumN (hs.map (·.l)) ≤ area ∧ sumN (os.map (·.l)) ≤ area ∧ Safe area 40 (hs.map (·.l)) (os.map (·.l)) δ ∧ (δ.stopped = false → Runs area g used (hs.map (·.l)) δ) ∧ Later W1 wr ∧ wb ≤ wr.heap.size
theorem CrP.mk {W1 : World} {p gs gn B q area wb N : Nat} {wr : World} (x : Int) (i g used wn hn hc on oc : Nat) (HA OA : Option Addr) (hs os : List SlB) (δ : D) (hx : x = (i : Int)) (h1 : i ≤ N) (h2 : Tab W1 wr wb HA hn hc hs) (h3 : Tab W1 wr wb OA on oc os) (h4 : LT W1.heap.size p gs gn B q area g used 60 wn δ wr wr) (h5 : g ≤ 2 + i) (h6 : 1 ≤ g) (h7 : used ≤ area) (h8 : wn ≤ 300 + 60 * i)
    (h9 : sumN (hs.map (·.l)) ≤ area) (h10 : sumN (os.map (·.l)) ≤ area) (h11 : Safe area 40 (hs.map (·.l)) (os.map (·.l)) δ) (h12 : δ.stopped = false → Runs area g used (hs.map (·.l)) δ) (h13 : Later W1 wr) (h14 : wb ≤ wr.heap.size) : CrP W1 p gs gn B q area wb N (.slice HA hn hc) (.slice OA on oc) (.int .i64 x) wr := by
  obtain rfl := h2.1
  obtain rfl := h3.1
  subst hx
  exact ⟨i, g, used, wn, hc, oc, HA, OA, hs, os, δ, rfl, rfl, rfl, h1, h2, h3, h4, h5, h6, h7, h8, h9, h10, h11, h12, h13, h14⟩
theorem LT.here {base p gs gn B q area gen used f wn : Nat} {δ : D} {w wr : World} (h : LT base p gs gn B q area gen used f wn δ w wr) : LT base p gs gn B q area gen used f wn δ wr wr := by
  obtain ⟨⟨cs, cn, A, cf, h1, h2, h5, h6⟩, h3⟩ := h
  exact ⟨⟨cs, cn, A, cf, h1, h2, KL.refl _, Below.refl _ _⟩, h3⟩
theorem LT.below {base p gs gn B q area gen used f wn : Nat} {δ : D} {w wr : World} (h : LT base p gs gn B q area gen used f wn δ w wr) : Below base w wr := by
  obtain ⟨⟨cs, cn, A, cf, h1, h2, h5, h6⟩, h3⟩ := h
  exact h6
theorem LT.kl {base p gs gn B q area gen used f wn : Nat} {δ : D} {w wr : World} (h : LT base p gs gn B q area gen used f wn δ w wr) : KL gs gn q w wr := by
  obtain ⟨⟨cs, cn, A, cf, h1, h2, h5, h6⟩, h3⟩ := h
  exact h5
theorem LT.blk {base p gs gn B q area gen used f wn : Nat} {δ : D} {w wr : World} (h : LT base p gs gn B q area gen used f wn δ w wr) : LogBk wr q p area gen used := by
  obtain ⟨⟨cs, cn, A, cf, h1, h2, h5, h6⟩, h3⟩ := h
  exact h2
theorem LT.rows {base p gs gn B q area gen used f wn : Nat} {δ : D} {w wr : World} (h : LT base p gs gn B q area gen used f wn δ w wr) : gs < wr.heap.size ∧ gn < wr.heap.size := by
  obtain ⟨⟨cs, cn, A, cf, h1, h2, h5, h6⟩, h3⟩ := h
  obtain ⟨_, ⟨_, vs, s2, _⟩, ⟨n1, ns, n2, _⟩, _⟩ := h1
  exact ⟨(s2.lt gs rfl).2, (n2.lt gn rfl).2⟩
theorem LT.more {base p gs gn B q area gen used f wn f' wn' : Nat} {δ : D} {w wr : World} (h : LT base p gs gn B q area gen used f wn δ w wr) (hf : f ≤ f') (hn : wn ≤ wn') : LT base p gs gn B q area gen used f' wn' δ w wr := ⟨h.1, h.2.more hf hn⟩
theorem LT.flat {base p gs gn B q area gen used f wn f' : Nat} {δ : D} {w wr : World} (h : LT base p gs gn B q area gen used f wn δ w wr) (hf : δ.fly = []) : LT base p gs gn B q area gen used f' wn δ w wr := ⟨h.1, h.2.flat hf⟩
theorem fits_of {area : Nat} {R : List (List Nat)} (h : sumN R ≤ area) (hr : ∀ r ∈ R, r.length ≤ 990) : fitsE area R = 0 := by
  unfold fitsE
  rw [if_pos (by rw [List.all_eq_true]; intro r hr'; exact decide_eq_true (by have := hr r hr'; omega)), if_neg (by omega)]
/-- Open of what was seen. -/
theorem logOpen_seen (base p gs gn B cs cn : Nat) (A : Option Addr) (cf : Nat) (d : D) (area g : Nat) (R : List (List Nat)) (a : Addr) (w : World) (f wn : Nat) (h : DA w base p gs gn B cs cn A cf d) (hB : B ≤ 4000) (hf : FitsD B area) (hS : Seen area g R d.now) (hg1 : 1 ≤ g) (hg : g ≤ 1000) (hd : DW B f wn d) (hfl : f ≤ 20000) (hwn : wn ≤ 20000) (hbw : base ≤ w.heap.size) (hsum : sumN R ≤ area)
    (hs : ∀ r ∈ R, r.length ≤ 990 ∧ ∀ x ∈ r, x < 256) (hse : S21B base w a) :
    Calls Tryd.prog 12 #[dptr p, .int .i64 area] w (OpenT base p gs gn B area g f wn d R w) := by
  obtain ⟨b0, b1, h0, h1, hm⟩ := hS.found hg1 (by omega)
  exact logOpen_t base p gs gn B cs cn A cf d area g R a w f wn h hB hf b0 b1 h0 h1 hm hS.recs (fits_of hsum fun r hr => (hs r hr).1) (by have := len_le_sumN R; have := hf.2.1; omega) hg1 (by omega) hd hfl hwn hbw hs hse
theorem fitsE_1 {n : Int} {r : List Nat} (h : r.length ≤ 65536) : fitsE n [r] = if n < ((blkN r.length : Nat) : Int) then 6 else 0 := by
  unfold fitsE
  rw [if_pos (by simp [h])]
  have : sumN [r] = blkN r.length := by simp [sumN]
  rw [this]
theorem isDeedL_cells {w : World} {b o : Nat} {d : DeedL} (h : DeedLAt w b o d) : w.cell? ⟨b, o, none⟩ = some (.int .i64 d.k) ∧ w.cell? ⟨b, o + 1, none⟩ = some d.b.v ∧ w.cell? ⟨b, o + 2, none⟩ = some (.slice d.la d.l.length d.lc) ∧ w.cell? ⟨b, o + 3, none⟩ = some d.keep.v ∧ w.cell? ⟨b, o + 4, none⟩ = some (.int .i64 d.torn) ∧ w.cell? ⟨b, o + 5, none⟩ = some (.int .i64 d.at_) :=
  ⟨h.1, h.2.1, h.2.2.1, h.2.2.2.1, h.2.2.2.2.1, h.2.2.2.2.2⟩
theorem safe_flat {area g : Nat} {H O : List (List Nat)} {δ : D} (hA : area ≤ 1000) (hfl : δ.fly = []) (hco : δ.sure = δ.now) (hL : Lg area g H δ.now) (hg : 1 ≤ g ∧ g ≤ 40) (hr : ∀ r ∈ H, r.length ≤ 65536) : Safe area 40 H O δ := fun keep torn at_ =>
  ⟨g, H, by rw [crash_flat hfl, hco]; exact hL.seen ⟨hg.1, by omega⟩ hA hr, hg.1, hg.2, .inl rfl⟩
def first5 : List Nat := [102, 105, 114, 115, 116]
theorem first5_ok : first5.length ≤ 990 ∧ ∀ x ∈ first5, x < 256 := by decide

set_option maxRecDepth 100000 in
set_option maxHeartbeats 8000000 in
theorem logCrashes_walk (ar : Nat) (LA : Option Addr) (n lc : Nat) (ds : List DeedL) (st : Nat) (KA : Option Addr) (kn kc : Nat) (keep : List Nat) (torn at_ : Int) (ag : Nat) (MA : Option Addr) (mn mc : Nat) (more : List Nat) (torn2 at2 : Int) (a : Addr) (w : World)
    (hs : S21 w a) (ha : ar < 256) (hds : IsDeedsL w LA n lc ds) (hst : st < 65536) (hkn : kn = keep.length) (hk40 : kn ≤ 40) (hk : Has w KA (ints .u8 keep)) (hk256 : ∀ x ∈ keep, x < 256) (hag : ag < 256) (hmn : mn = more.length) (hm40 : mn ≤ 40) (hm : Has w MA (ints .u8 more)) (hm256 : ∀ x ∈ more, x < 256) (hlight : Lights ds) :
    Calls Tryd.prog 3 #[.int .u8 (ar : Int), .slice LA n lc, .int .u16 (st : Int), .slice KA kn kc, .int .i64 torn, .int .i64 at_, .int .u8 (ag : Int), .slice MA mn mc, .int .i64 torn2, .int .i64 at2] w fun e w' => e = .returned (.bool true) ∧ Later w w' := by
  have HB := Lib.hid (begun21_any a w hs)
  have HS := Lib.hid hs
  have HDS := Lib.hid hds
  have HNL := Lib.hid hds.1
  have HLI := Lib.hid hlight
  have HK := Lib.hid hk
  have HM := Lib.hid hm
  have HK256 := Lib.hid hk256
  have HM256 := Lib.hid hm256
  have HKN := Lib.hid hkn
  have HMN := Lib.hid hmn
  have hd1 : decide ((40 : Int) < (kn : Int)) = false := by simp; omega
  have hd2 : decide ((40 : Int) < (mn : Int)) = false := by simp; omega
  obtain ⟨t, ht⟩ : ∃ x, x = ar % 20 := ⟨_, rfl⟩
  obtain ⟨area, har⟩ : ∃ x, x = 6 + t := ⟨_, rfl⟩
  obtain ⟨B, hB⟩ : ∃ x, x = 2 + 2 * area := ⟨_, rfl⟩
  have ha41 : 6 ≤ area ∧ area ≤ 25 := by omega
  have e0 : (ar : Int).tmod 20 = (t : Int) := by rw [Int.tmod_eq_emod_of_nonneg (by omega)]; omega
  have e1 : IntKind.u8.wrap (t : Int) = (t : Int) := by simp [IntKind.wrap, IntKind.bits, IntKind.signed]; omega
  have e2 : IntKind.i64.wrap (t : Int) = (t : Int) := IntWalk.i64_in _ ⟨by omega, by omega⟩
  have e3 : IntKind.i64.wrap (6 + (t : Int)) = (area : Int) := by rw [IntWalk.i64_in _ ⟨by omega, by omega⟩]; omega
  have eB : 2 + 2 * (area : Int) = (B : Int) := by omega
  have hB1 : 1 ≤ B ∧ B ≤ 4000 := by omega
  have hfit : FitsD B (area : Int) := ⟨by omega, by omega, by omega⟩
  obtain ⟨s4, hs4⟩ : ∃ x, x = st % 400 := ⟨_, rfl⟩
  have hs4' : s4 < 400 := by omega
  have s0 : (st : Int).tmod 400 = (s4 : Int) := by rw [Int.tmod_eq_emod_of_nonneg (by omega)]; omega
  have s1 : IntKind.u16.wrap (s4 : Int) = (s4 : Int) := by simp [IntKind.wrap, IntKind.bits, IntKind.signed]; omega
  have s2 : IntKind.i64.wrap (s4 : Int) = (s4 : Int) := IntWalk.i64_in _ ⟨by omega, by omega⟩
  obtain ⟨r6, hr6⟩ : ∃ x, x = ag % 60 := ⟨_, rfl⟩
  have r0 : (ag : Int).tmod 60 = (r6 : Int) := by rw [Int.tmod_eq_emod_of_nonneg (by omega)]; omega
  have r1 : IntKind.u8.wrap (r6 : Int) = (r6 : Int) := by simp [IntKind.wrap, IntKind.bits, IntKind.signed]; omega
  have r2 : IntKind.i64.wrap (r6 : Int) = (r6 : Int) := IntWalk.i64_in _ ⟨by omega, by omega⟩
  have HFT := Lib.hid hfit
  have HSZ := Lib.hid (fun W => logSize_any area W (by omega))
  have HNEW := Lib.hid (fun W => devNew_any B W hB1)
  have HB1 := Lib.hid hB1
  have HEB := Lib.hid eB
  have HA41 := Lib.hid ha41
  have HBA := Lib.hid hB
  have kc5 := fun (w : World) (C : Array Value) (n c : Nat) => Lib.run_convert_bytes_const (P := Tryd.prog) w 24 5 C n c Tryd.underlying24 Tryd.underlying5
  clear hs hds hlight hk hm hk256 hm256 hkn hmn ht har hB eB hB1 hfit ha41 hs4 hr6 hs4'
  go_enter Tryd.func3, Tryd.ntmps3
  go_wp2_with fail
  refine HB.out.mono ?_
  rintro e w1 ⟨rfl, l1⟩
  have HL1 := Lib.hid l1
  have HLT := Lib.hid (light21_any LA n lc ds w1 (HDS.out.later l1))
  clear l1 HB
  go_wp2_with fail
  refine HLT.out.mono ?_
  rintro e w1' ⟨b, hb, rfl, rfl⟩
  obtain rfl : b = true := hb.2 HLI.out
  clear hb HLT
  go_wp2_with fail
  refine (HSZ.out w1').mono ?_
  rintro e w2' ⟨rfl, rfl⟩
  rw [HEB.out]
  go_wp2_with fail
  refine (HNEW.out _).mono ?_
  rintro e w2 ⟨p, gs, gn, cs, cn, rfl, hda, l2⟩
  obtain ⟨W1, hW1⟩ : ∃ x, x = w1' := ⟨_, rfl⟩
  rw [← hW1] at hda l2 HL1
  clear hW1 HNEW HSZ
  obtain ⟨ga, hga⟩ : ∃ x, w2.heap.size = x := ⟨_, rfl⟩
  obtain ⟨w3, hw3⟩ : ∃ x, w2.alloc (.cells #[.int .u8 102, .int .u8 105, .int .u8 114, .int .u8 115, .int .u8 116] 5 (5, 6)) = x := ⟨_, rfl⟩
  obtain ⟨w4, hw4⟩ : ∃ x, w3.alloc (.cells #[.slice (some ⟨ga, 0, none⟩) 5 5] 24) = x := ⟨_, rfl⟩
  have l3 : Later w2 w3 := hw3 ▸ Later.new _ _
  have l4 : Later w3 w4 := hw4 ▸ Later.new _ _
  have hz3 : w3.heap.size = ga + 1 := by rw [← hw3, ← hga]; simp
  have hb3 : w3.heap[ga]? = some (Obj.cells (ints .u8 first5).toArray 5 (5, 6)) := by rw [← hw3, ← hga]; exact heap_alloc_new w2 _
  have hb4 : w4.heap[ga]? = some (Obj.cells (ints .u8 first5).toArray 5 (5, 6)) := (Below.block l4 ga (Array.getElem?_eq_some_iff.1 hb3).1).trans hb3
  have hr4 : Blk w4 (ga + 1) [Value.slice (some ⟨ga, 0, none⟩) 5 5].toArray 24 := hw4 ▸ Blk.new w3 _ _ (ga + 1) hz3.symm
  have l24 : Later w2 w4 := l3.trans l4
  have hgl : gs < ga ∧ gn < ga := by
    obtain ⟨_, ⟨_, vs, s2, _⟩, ⟨_, ns, n2, _⟩, _⟩ := hda
    rw [← hga]
    exact ⟨(s2.lt gs rfl).2, (n2.lt gn rfl).2⟩
  have HSB4 := Lib.hid (((S21B.of (HS.out.later HL1.out)).later l2).later l24)
  have HMK := Lib.hid (logMake_t W1.heap.size p gs gn B cs cn none 0 (newD B) area (some ⟨ga + 1, 0, none⟩) 1 [⟨some ⟨ga, 0, none⟩, 5, first5⟩] a w4 0 0 (hda.later l24) HB1.out.2 HFT.out (DOk.new B).dw (by decide) (by decide) (l2.trans l24).size (by simp)
    (fun q W hq hk hb => ⟨blk_hasL (t := 24) (show W.heap[ga + 1]? = _ from (hk.2.2.2.2.2 (ga + 1) _ (by have := hr4.lt; omega) (by omega) (by omega) hr4).trans hr4), fun s hs => by
      rw [List.mem_singleton] at hs
      subst hs
      exact Has.litAt (w' := W) (t := 5) (z := (5, 6)) ((hk.2.2.2.2.1 ga _ _ (by have := hr4.lt; omega) (by decide) (by decide) (by decide) hb4).trans hb4)⟩)
    (fun s hs => by rw [List.mem_singleton] at hs; subst hs; exact ⟨first5_ok.1, first5_ok.2, fun h => by cases h⟩) HSB4.out)
  have HL4 := Lib.hid (l2.trans l24)
  have HGA := Lib.hid hga
  have HW3 := Lib.hid hw3
  have HW4 := Lib.hid hw4
  clear hda l2 hw3 hw4 hz3 hb3 hb4 hr4 l24 hgl l3 l4 hga
  go_wp2_with fail
  rw [HGA.out, HW3.out, HW4.out]
  refine HMK.out.mono ?_
  rintro e w5 ⟨rfl, hr⟩
  have hsm : sumN [first5] = 1 := by decide
  have hfe : fitsE ((area : Nat) : Int) [first5] = 0 := fits_of (by rw [hsm]; have := HA41.out.1; omega) (fun r hr => by rw [List.mem_singleton] at hr; subst hr; decide)
  rcases hr with ⟨h1, _⟩ | ⟨_, q, hq, hlt5⟩
  · exact absurd hfe h1
  have hfe2 : fitsE ((area : Nat) : Int) (List.map (·.l) [(⟨some ⟨ga, 0, none⟩, 5, first5⟩ : SlB)]) = 0 := hfe
  rw [hfe2]
  have hlt5 : LT W1.heap.size p gs gn B q area 1 (sumN [first5]) (0 + area + sumN [first5] + 1) (0 + area + sumN [first5] + 1) (anewT 1 area [first5] (newD B)) w4 w5 := hlt5
  rw [hsm] at hlt5
  obtain ⟨d1, hd1⟩ : ∃ x, x = anewT 1 area [first5] (newD B) := ⟨_, rfl⟩
  have hnew := new_lg (area := area) (B := B) (L := [first5]) (by have := HBA.out; omega) (by rw [hsm]; have := HA41.out.1; omega)
  have hd1s : d1.stops = false := by rw [hd1, anewT_stops]; rfl
  rw [← hd1] at hlt5 hnew
  have hA1000 : area ≤ 1000 := by have := HA41.out.2; omega
  have h5 : ∀ r ∈ [first5], r.length ≤ 65536 := fun r hr => by rw [List.mem_singleton] at hr; subst hr; decide
  have HL5 := Lib.hid (show Later W1 w5 from (show Below W1.heap.size W1 w4 from HL4.out.below).trans hlt5.below)
  have hsn1 := hnew.2.2.seen ⟨by decide, by decide⟩ hA1000 h5
  obtain ⟨⟨cs5, cn5, A5, cf5, hda5, hqb5, _, _⟩, hdw5⟩ := id hlt5
  have HO := Lib.hid (logOpen_seen W1.heap.size p gs gn B cs5 cn5 A5 cf5 d1 area 1 [first5] a w5 _ _ hda5 HB1.out.2 HFT.out hsn1 (by decide) (by decide) hdw5 (by omega) (by omega) HL5.out.size (by rw [hsm]; have := HA41.out.1; omega) (fun r hr => by rw [List.mem_singleton] at hr; subst hr; decide) ((S21B.of (HS.out.later HL1.out)).later HL5.out))
  have hsafe := anew_safe (area := area) (g := 1) (R := [first5]) (R2 := [first5]) (d := d1) hA1000 (by decide) hnew.1 hnew.2.1 hsn1 h5 (by rw [hsm]; have := HA41.out.1; omega)
  have hrun := hsafe.2 (run_of_stops (by rw [anewT_stops]; exact hd1s))
  have HRUN := Lib.hid hrun
  have HG5 := Lib.hid (show gs < w5.heap.size ∧ gn < w5.heap.size from hlt5.rows)
  clear hfe hfe2 hq hlt5 hd1 hnew hsn1 hda5 hqb5 hdw5 hsafe hrun HMK HW3 HW4 HGA hd1s
  go_wp2_with fail
  refine HO.out.mono ?_
  rintro e w6 ⟨q1, T, tc, ss, rfl, hm, htb, hq1, hlt6⟩
  rw [hsm] at hlt6
  have HL6 := Lib.hid (show Later W1 w6 from (show Below W1.heap.size W1 w5 from HL5.out.below).trans hlt6.below)
  have HT6 := Lib.hid (show Tab W1 w6 w5.heap.size T ss.length tc ss from Tab.of htb rfl fun s hs => by
    have : s.l ∈ ss.map (·.l) := List.mem_map_of_mem hs
    rw [hm, List.mem_singleton] at this
    rw [this]
    decide)
  have HM6 := Lib.hid hm
  have HLT6 := Lib.hid (hlt6.here.flat (f' := 60) HRUN.out.1)
  have HQ1 := Lib.hid (show W1.heap.size ≤ q1 from Nat.le_trans HL5.out.size hq1)
  have hlen : ss.length = 1 := by have := congrArg List.length hm; simpa using this
  rw [hlen]
  clear hm htb hq1 hlt6 HO HSB4
  obtain ⟨d2, hd2⟩ : ∃ x, x = anewT 2 area [first5] d1 := ⟨_, rfl⟩
  have HRUN : Hid (d2.fly = [] ∧ d2.sure = d2.now ∧ Lg area 2 [first5] d2.now) := by rw [hd2]; exact HRUN
  have HLT6 : Hid (LT W1.heap.size p gs gn B q1 area 2 1 60 (0 + area + 1 + 1 + area + 1 + 1) d2 w6 w6) := by rw [hd2]; exact HLT6
  clear hd2
  obtain ⟨⟨cs6, cn6, A6, cf6, hda6, hqb6, _, _⟩, hdw6⟩ := id HLT6.out
  have HST := Lib.hid (devStop_g W1.heap.size p gs gn B cs6 cn6 A6 cf6 d2 (s4 : Int) w6 hda6 HL6.out.size)
  have HQB6 := Lib.hid hqb6
  have HDW6 := Lib.hid hdw6
  clear hda6 hqb6 hdw6
  go_wp2_with fail
  refine HST.out.mono ?_
  rintro e w7 ⟨rfl, ⟨cs7, cn7, A7, cf7, hda7⟩, hkg7, hbl7⟩
  have HLT7 := Lib.hid (show LT W1.heap.size p gs gn B q1 area 2 1 60 (0 + area + 1 + 1 + area + 1 + 1) (d2.st (s4 : Int)) w7 w7 from ⟨⟨cs7, cn7, A7, cf7, hda7, hkg7.blk HQB6.out (by decide) (by decide) (by decide), KL.refl _, Below.refl _ _⟩, HDW6.out.st _⟩)
  have HT7 := Lib.hid (HT6.out.kg hkg7 (HT6.out.off HG5.out.1 HG5.out.2))
  have HL7 := Lib.hid (show Later W1 w7 from (show Below W1.heap.size W1 w6 from HL6.out.below).trans hbl7)
  have hlen5 : w5.heap.size ≤ w7.heap.size := by
    have h1 := HT7.out.2.1
    obtain ⟨_, h2⟩ := h1
    rcases h2 with ⟨h3, h4⟩ | ⟨g, cap, cur, ha, hb, hg, _⟩
    · exfalso
      have := HT7.out.1
      omega
    · have := (Array.getElem?_eq_some_iff.1 hg).1
      omega
  have HI0 := Lib.hid (CrP.mk (W1 := W1) (p := p) (gs := gs) (gn := gn) (B := B) (q := q1) (area := area) (wb := w5.heap.size) (N := n) (wr := w7) 0 0 2 1 _ 1 tc 1 tc T T ss ss (d2.st (s4 : Int)) rfl (Nat.zero_le _) (by rw [← hlen]; exact HT7.out) (by rw [← hlen]; exact HT7.out) HLT7.out (by omega) (by omega) (by have := HA41.out.1; omega) (by have := HA41.out.2; omega)
    (by rw [HM6.out, hsm]; have := HA41.out.1; omega) (by rw [HM6.out, hsm]; have := HA41.out.1; omega) (by rw [HM6.out]; exact safe_flat (δ := d2.st (s4 : Int)) hA1000 HRUN.out.1 HRUN.out.2.1 HRUN.out.2.2 (by decide) h5)
    (fun _ => by rw [HM6.out]; exact ⟨HRUN.out.1, HRUN.out.2.1, hsm.symm, HRUN.out.2.2⟩) HL7.out hlen5)
  obtain ⟨wb, hwb⟩ : ∃ x, w5.heap.size = x := ⟨_, rfl⟩
  rw [hwb] at HI0 HG5
  clear hda7 hkg7 hbl7 hlen5 HLT7 HT7 HL7 HT6 HLT6 HRUN HST HQB6 HDW6 HL6 HL5 HL4 HM6 hlen hsm h5 hwb
  go_wp2_with fail
  go_loopw [25, 27, 28] (fun hv ov iv wr => CrP W1 p gs gn B q1 area wb n hv ov iv wr) (fun _ _ iv _ => n - (intOf iv).toNat)
  case atStart => exact HI0.out
  case round =>
    obtain ⟨i, g, used, wn, hc, oc, HA, OA, hs, os, δ, rfl, rfl, rfl, hiN, hht, hot, hlt, hg2, hg1, hus, hwn, hhs, hos, hsafe, hruns, hla, hwbr⟩ := hrel
    obtain ⟨wo, hwo⟩ : ∃ x, x = wr := ⟨_, rfl⟩
    subst hwo
    have HHT := Lib.hid hht
    have HOT := Lib.hid hot
    have HLT := Lib.hid hlt
    have HHS := Lib.hid hhs
    have HOS := Lib.hid hos
    have HSAFE := Lib.hid hsafe
    have HRUNS := Lib.hid hruns
    have HLA := Lib.hid hla
    have HWB := Lib.hid hwbr
    obtain ⟨⟨csR, cnR, AR, cfR, hdaR, hqbR, _, _⟩, hdwR⟩ := id hlt
    have HSTP := Lib.hid (devStopped_any p δ.stops δ.left wo hdaR.c4 hdaR.c5)
    clear HI0 hht hot hlt hhs hos hsafe hruns hla hwbr hdaR hqbR hdwR
    obtain ⟨cc, hcc⟩ : ∃ b, b = (decide (i < n) && !δ.stopped) := ⟨_, rfl⟩
    have HCC := Lib.hid hcc
    go_upto_region 15 with fail
    go_cut [98] from 90 to 98 (fun v wx => v = .bool cc ∧ wx = wo)
    case first =>
      by_cases hlt2 : i < n
      · have hd3 : decide ((i : Int) < (n : Int)) = true := by simp; omega
        go_wp2_with fail
        refine HSTP.out.mono ?_
        rintro e w8 ⟨rfl, rfl⟩
        go_wp2_with fail
        go_meet
        refine ⟨?_, rfl⟩
        rw [HCC.out, decide_eq_true hlt2, Bool.true_and]
        unfold D.stopped
        rw [Bool.not_and]
      · have hd3 : decide ((i : Int) < (n : Int)) = false := by simp; omega
        go_wp2_with fail
        go_meet
        refine ⟨?_, rfl⟩
        rw [HCC.out, decide_eq_false hlt2, Bool.false_and]
    case rest =>
    obtain ⟨rfl, rfl⟩ := hcut
    clear HSTP hcc
    rcases cc with _ | _
    · have hn20 : n ≤ 20 := by have := HLI.out.2; have := HNL.out; omega
      have hA1000 : area ≤ 1000 := by have := HA41.out.2; omega
      obtain ⟨⟨csR, cnR, AR, cfR, hdaR, hqbR, _, _⟩, hdwR⟩ := id HLT.out
      have HCR := Lib.hid (devCrash_g W1.heap.size p gs gn B csR cnR AR cfR δ KA kn kc keep torn at_ wc hdaR HB1.out (by have := hdwR.fly; omega) hdwR.at_ HLA.out.size HKN.out (by omega) (fun W _ hb => HK.out.later (HL1.out.trans (show Later W1 W from (show Below W1.heap.size W1 wc from HLA.out.below).trans hb))) HK256.out)
      have HDWR := Lib.hid hdwR
      have HTS := Lib.hid (show ∀ R, (R = hs.map (·.l) ∨ R = os.map (·.l)) → sumN R ≤ area ∧ ∀ r ∈ R, r.length ≤ 990 ∧ ∀ x ∈ r, x < 256 from fun R hR => by
        rcases hR with rfl | rfl
        · refine ⟨HHS.out, fun r hr => ?_⟩
          obtain ⟨s, hs', rfl⟩ := List.mem_map.1 hr
          have := HHT.out.2.2.1 s hs'
          exact ⟨this.2.1, this.1⟩
        · refine ⟨HOS.out, fun r hr => ?_⟩
          obtain ⟨s, hs', rfl⟩ := List.mem_map.1 hr
          have := HOT.out.2.2.1 s hs'
          exact ⟨this.2.1, this.1⟩)
      clear hdaR hqbR hdwR
      go_wp2_with fail
      refine HCR.out.mono ?_
      rintro e w8 ⟨rfl, ⟨gn2, cs8, cn8, A8, cf8, hgn2, hda8⟩, hkg8, hbl8⟩
      have HL8 := Lib.hid (show Later W1 w8 from (show Below W1.heap.size W1 wc from HLA.out.below).trans hbl8)
      have HO2 := Lib.hid (HHT.out.off2 HG5.out.1 HG5.out.2 hgn2)
      have HP2 := Lib.hid (HOT.out.off2 HG5.out.1 HG5.out.2 hgn2)
      have HH8 := Lib.hid (HHT.out.kg hkg8 (HHT.out.off HG5.out.1 HG5.out.2))
      have HP8 := Lib.hid (HOT.out.kg hkg8 (HOT.out.off HG5.out.1 HG5.out.2))
      obtain ⟨g', R, hseen, hg'1, hg'2, hR⟩ := HSAFE.out keep torn at_
      obtain ⟨hRs, hRr⟩ := HTS.out R hR
      obtain ⟨d8, hd8⟩ : ∃ x, x = δ.cr keep torn at_ := ⟨_, rfl⟩
      have hd8f : d8.fly = [] ∧ d8.sure = d8.now := by rw [hd8]; exact ⟨rfl, rfl⟩
      have hdw8 : DW B 0 wn d8 := by rw [hd8]; exact HDWR.out.cr _ _ _
      rw [← hd8] at hda8 hseen
      have HST8 := Lib.hid (devStop_g W1.heap.size p gs gn2 B cs8 cn8 A8 cf8 d8 (r6 : Int) w8 hda8 HL8.out.size)
      have HSEEN := Lib.hid hseen
      have HR := Lib.hid hR
      have HRR := Lib.hid hRr
      have HD8 := Lib.hid hd8f
      have HDW8 := Lib.hid hdw8
      clear hda8 hkg8 hbl8 hseen hR hRr hd8f hd8 hdw8 hgn2 HCR HHT HOT HSAFE HRUNS HLT HTS
      go_wp2_with fail
      refine HST8.out.mono ?_
      rintro e w9 ⟨rfl, ⟨cs9, cn9, A9, cf9, hda9⟩, hkg9, hbl9⟩
      have HL9 := Lib.hid (show Later W1 w9 from (show Below W1.heap.size W1 w8 from HL8.out.below).trans hbl9)
      have HH9 := Lib.hid (HH8.out.kg hkg9 HO2.out)
      have HP9 := Lib.hid (HP8.out.kg hkg9 HP2.out)
      have HOP := Lib.hid (logOpen_seen W1.heap.size p gs gn2 B cs9 cn9 A9 cf9 (d8.st (r6 : Int)) area g' R a w9 0 wn hda9 HB1.out.2 HFT.out HSEEN.out hg'1 (by omega) (HDW8.out.st _) (by omega) (by omega) HL9.out.size hRs HRR.out ((S21B.of (HS.out.later HL1.out)).later HL9.out))
      clear hda9 hkg9 hbl9 HST8 HH8 HP8 HL8
      go_wp2_with fail
      refine HOP.out.mono ?_
      rintro e w10 ⟨q2, T2, tc2, ss2, rfl, _, _, hq2, hlt10⟩
      have HL10 := Lib.hid (show Later W1 w10 from (show Below W1.heap.size W1 w9 from HL9.out.below).trans hlt10.below)
      have HH10 := Lib.hid (HH9.out.kl hlt10.kl (NotQ.new hq2) HO2.out)
      have HP10 := Lib.hid (HP9.out.kl hlt10.kl (NotQ.new hq2) HP2.out)
      have hsf := (anew_safe (area := area) (g := g') (R := R) (R2 := R) (d := d8.st (r6 : Int)) hA1000 ⟨hg'1, by omega⟩ HD8.out.1 HD8.out.2 HSEEN.out (fun x hx => by have := (HRR.out x hx).1; omega) hRs).1 more torn2 at2
      obtain ⟨d10, hd10⟩ : ∃ x, x = anewT (g' + 1) area R (d8.st (r6 : Int)) := ⟨_, rfl⟩
      rw [← hd10] at hsf hlt10
      obtain ⟨⟨cs10, cn10, A10, cf10, hda10, _, _, _⟩, hdw10⟩ := id hlt10
      have HCR := Lib.hid (devCrash_g W1.heap.size p gs gn2 B cs10 cn10 A10 cf10 d10 MA mn mc more torn2 at2 w10 hda10 HB1.out (by have := hdw10.fly; omega) hdw10.at_ HL10.out.size HMN.out (by omega) (fun W _ hb => HM.out.later (HL1.out.trans (show Later W1 W from (show Below W1.heap.size W1 w10 from HL10.out.below).trans hb))) HM256.out)
      have HSF := Lib.hid hsf
      have HDW10 := Lib.hid hdw10
      clear hq2 hlt10 hsf hd10 hda10 hdw10 HOP HH9 HP9 HL9
      go_wp2_with fail
      refine HCR.out.mono ?_
      rintro e w11 ⟨rfl, ⟨gn3, cs11, cn11, A11, cf11, hgn3, hda11⟩, hkg11, hbl11⟩
      have HL11 := Lib.hid (show Later W1 w11 from (show Below W1.heap.size W1 w10 from HL10.out.below).trans hbl11)
      have HO3 := Lib.hid (show Off HA hs.length hc gs gn3 from fun x hx => ⟨(HO2.out x hx).1, fun e => by
        rcases hgn3 with h | h
        · exact (HO2.out x hx).2 (e.trans h)
        · have := (HH10.out.2.1.lt x hx).2; omega⟩)
      have HP3 := Lib.hid (show Off OA os.length oc gs gn3 from fun x hx => ⟨(HP2.out x hx).1, fun e => by
        rcases hgn3 with h | h
        · exact (HP2.out x hx).2 (e.trans h)
        · have := (HP10.out.2.1.lt x hx).2; omega⟩)
      have HH11 := Lib.hid (HH10.out.kg hkg11 HO2.out)
      have HP11 := Lib.hid (HP10.out.kg hkg11 HP2.out)
      obtain ⟨g3, hsn3, hg3⟩ : ∃ g3, Seen area g3 R (d10.cr more torn2 at2).now ∧ 1 ≤ g3 ∧ g3 ≤ 50 := by
        rcases HSF.out with h | h
        · exact ⟨_, h, hg'1, by omega⟩
        · exact ⟨_, h, by omega, by omega⟩
      have HOP := Lib.hid (logOpen_seen W1.heap.size p gs gn3 B cs11 cn11 A11 cf11 (d10.cr more torn2 at2) area g3 R a w11 0 _ hda11 HB1.out.2 HFT.out hsn3 hg3.1 (by omega) (HDW10.out.cr _ _ _) (by omega) (by omega) HL11.out.size hRs HRR.out ((S21B.of (HS.out.later HL1.out)).later HL11.out))
      clear hgn3 hda11 hkg11 hbl11 hsn3 hg3 HCR HH10 HP10 HL10 HSF
      go_wp2_with fail
      refine HOP.out.mono ?_
      rintro e w12 ⟨q4, T4, tc4, ss4, rfl, hm4, htb4, hq4, hlt12⟩
      have HL12 := Lib.hid (show Later W1 w12 from (show Below W1.heap.size W1 w11 from HL11.out.below).trans hlt12.below)
      have HH12 := Lib.hid (HH11.out.kl hlt12.kl (NotQ.new hq4) HO3.out)
      have HP12 := Lib.hid (HP11.out.kl hlt12.kl (NotQ.new hq4) HP3.out)
      have HE4 := Lib.hid (show ∀ s ∈ ss4, Has w12 s.a (ints .u8 s.l) ∧ ∀ x ∈ s.l, x < 256 from fun s hs' => ⟨htb4.has.2 s hs', by
        have : s.l ∈ ss4.map (·.l) := List.mem_map_of_mem hs'
        rw [hm4] at this
        exact (HRR.out _ this).2⟩)
      have HT4 := Lib.hid htb4.has.1
      have HM4 := Lib.hid hm4
      have hl4 : ss4.length ≤ 1000 := by have := congrArg List.length hm4; rw [List.length_map] at this; have := len_le_sumN R; omega
      have HSM1 := Lib.hid (logSame_any T4 HA ss4.length hs.length tc4 hc ss4 hs w12 rfl rfl (by omega) htb4.has.1 (HH12.out.has HL12.out).1 HE4.out (HH12.out.has HL12.out).2)
      have HSM2 := Lib.hid (fun (W : World) (l : Later w12 W) => logSame_any T4 OA ss4.length os.length tc4 oc ss4 os W rfl rfl (by omega) (HT4.out.later l) ((HP12.out.later l).has (HL12.out.trans l)).1 (fun s hs' => ⟨(HE4.out s hs').1.later l, (HE4.out s hs').2⟩) ((HP12.out.later l).has (HL12.out.trans l)).2)
      clear hm4 htb4 hq4 hlt12 HOP HH11 HP11 HL11
      go_wp2_with fail
      refine HSM1.out.mono ?_
      rintro e w13 ⟨b, hb, rfl, l13⟩
      have HEND := Lib.hid ((HL1.out.trans HL12.out).trans l13)
      rcases b with _ | _
      · have hR2 : ss4.map (·.l) = os.map (·.l) := by
          rcases HR.out with h | h
          · exfalso
            have := hb.2 (HM4.out.trans h)
            cases this
          · exact HM4.out.trans h
        have HS2 := Lib.hid (HSM2.out w13 l13)
        clear hb l13 HSM1 HSM2
        go_wp2_with fail
        refine HS2.out.mono ?_
        rintro e w14 ⟨b, hb, rfl, l14⟩
        obtain rfl : b = true := hb.2 hR2
        have HEND2 := Lib.hid (HEND.out.trans l14)
        clear hb l14 hR2 HS2
        go_wp2_with fail
        go_ret
        exact ⟨rfl, HEND2.out⟩
      · clear hb l13 HSM1 HSM2
        go_wp2_with fail
        go_ret
        exact ⟨rfl, HEND.out⟩
    · have hcc2 := HCC.out
      have hi : i < n := by
        rcases Nat.lt_or_ge i n with h | h
        · exact h
        · rw [decide_eq_false (by omega), Bool.false_and] at hcc2; cases hcc2
      have hrn : δ.stopped = false := by
        rw [decide_eq_true hi, Bool.true_and] at hcc2
        rcases h : δ.stopped with _ | _
        · rfl
        · rw [h] at hcc2; cases hcc2
      obtain ⟨hrf, hrs, hru, hrl⟩ := HRUNS.out hrn
      have hn20 : n ≤ 20 := by have := HLI.out.2; have := HNL.out; omega
      have hA1000 : area ≤ 1000 := by have := HA41.out.2; omega
      have hil : i < ds.length := by rw [HNL.out]; exact hi
      obtain ⟨bD, oD, rfl, hcells⟩ := (HDS.out.later (HL1.out.trans HLA.out)).2.1 i hil
      have hok := HDS.out.2.2.1 _ (List.getElem_mem hil)
      have hli := HLI.out.1 _ (List.getElem_mem hil)
      obtain ⟨D, hD⟩ : ∃ D, D = ds[i] := ⟨_, rfl⟩
      rw [← hD] at hcells hok hli
      obtain ⟨c0, c1, c2, c3, c4, c5⟩ := isDeedL_cells hcells
      unfold SlB.v at c1 c3
      have HOK := Lib.hid hok
      have HLD := Lib.hid hli
      have HRF := Lib.hid hrf
      have HRS := Lib.hid hrs
      have HRU := Lib.hid hru
      have HRL := Lib.hid hrl
      obtain ⟨gb, hgb⟩ : ∃ x, wc.heap.size = x := ⟨_, rfl⟩
      obtain ⟨w2, hw2⟩ : ∃ x, wc.alloc (.cells #[.int .i64 D.k, .slice D.b.a D.b.l.length D.b.c, .slice D.la D.l.length D.lc, .slice D.keep.a D.keep.l.length D.keep.c, .int .i64 D.torn, .int .i64 D.at_] 39) = x := ⟨_, rfl⟩
      have l2 : Later wc w2 := hw2 ▸ Later.new _ _
      have HBO := Lib.hid (show Blk w2 gb #[.int .i64 D.k, .slice D.b.a D.b.l.length D.b.c, .slice D.la D.l.length D.lc, .slice D.keep.a D.keep.l.length D.keep.c, .int .i64 D.torn, .int .i64 D.at_] 39 from hw2 ▸ Blk.new wc _ _ gb hgb.symm)
      have HLX := Lib.hid (HLA.out.trans l2)
      have HLT2 := Lib.hid ((HLT.out.ltLater l2 HQ1.out).here)
      have HH2 := Lib.hid (HHT.out.later l2)
      have HP2 := Lib.hid (HOT.out.later l2)
      have HTB := Lib.hid ((HHT.out.later l2).has (HLA.out.trans l2)).1
      have HNIL := Lib.hid HHT.out.2.2.2
      have HONE := Lib.hid (show ∀ u ∈ hs.map SlB.v, u.oneCell' = true from fun u hu => by
        obtain ⟨s, _, rfl⟩ := List.mem_map.1 hu
        rfl)
      have hhl : hs.length ≤ 25 := by have := HHS.out; have := len_le_sumN (hs.map (·.l)); rw [List.length_map] at this; have := HA41.out.2; omega
      have hu0 : (Blk.new wc #[.int .i64 0, .slice none 0 0, .slice none 0 0, .slice none 0 0, .int .i64 0, .int .i64 0] 39 wc.heap.size rfl).frozen 0 = (Blk.new wc #[.int .i64 0, .slice none 0 0, .slice none 0 0, .slice none 0 0, .int .i64 0, .int .i64 0] 39 wc.heap.size rfl).frozen 0 := rfl
      clear hu0 hcells hok hli hD hrf hrs hru hrl l2 HCC hcc2 HHT HOT HLT HSAFE HRUNS
      have HW2 := Lib.hid hw2
      have HGB := Lib.hid hgb
      clear hw2 hgb
      go_upto_region 18 with fail
      try rw [HGB.out]
      try rw [HW2.out]
      go_cut [30] from 105 to 111 (fun v wx => ∃ A' c', v = .slice A' (hs.length + 1) c' ∧ wx.ownsRow w2.heap.size 24 1 (.slice A' (hs.length + 1) c') (hs.length + 1) (hs.map SlB.v ++ [Value.slice D.b.a D.b.l.length D.b.c]) ∧ (A' = none → c' = 0) ∧ Later w2 wx)
      case first => as_aux_lemma =>
        refine wp_region_K (S := fun W : World => Later w2 W) (R := fun a b => a = b) (fun _ => rfl) (by kernel_rfl) ?_
        have hS : Later w2 w2.drew := (Later.refl w2).drew
        obtain ⟨y0, hy0⟩ : ∃ x, w2.drew = x := ⟨_, rfl⟩
        rw [hy0] at hS ⊢
        clear hy0
        refine wpAnyK_take (fun _ => rfl) (fun _ _ _ h k => h.trans k) (fun _ _ h k => k ▸ h) (i := 1) (oi := { dst := some 106, op := _, type := _, pos := _, after := _, guard := _ }) (v := ?_) rfl (by kernel_rfl) (by kernel_rfl) (by kernel_rfl) (fun _ _ _ h => h) (Or.inl (Or.inl ⟨by rfl, ?_⟩)) hS ?_
        rotate_left
        focus ((intro w hSw; (try dsimp only at hSw); skip; go_simp); (try with_reducible rfl))
        intro wq' hwq
        subst hwq
        (try simp only [Act.put, List.setIfInBounds_toArray, List.set_cons_zero, List.set_cons_succ])
        refine wpAnyK_take (fun _ => rfl) (fun _ _ _ h k => h.trans k) (fun _ _ h k => k ▸ h) (i := 3) (oi := { dst := some 108, op := _, type := _, pos := _, after := _, guard := _ }) (v := ?_) rfl (by kernel_rfl) (by kernel_rfl) (by kernel_rfl) (fun _ _ _ h => h) (Or.inl (Or.inl ⟨by rfl, ?_⟩)) hS ?_
        rotate_left
        focus ((intro w hSw; (try dsimp only at hSw); skip; go_simp); (try with_reducible rfl))
        intro wq' hwq
        subst hwq
        (try simp only [Act.put, List.setIfInBounds_toArray, List.set_cons_zero, List.set_cons_succ])
        refine wpAnyK_take (fun _ => rfl) (fun _ _ _ h k => h.trans k) (fun _ _ h k => k ▸ h) (i := 4) (oi := { dst := some 109, op := _, type := _, pos := _, after := _, guard := _ }) (v := ?_) rfl (by kernel_rfl) (by kernel_rfl) (by kernel_rfl) (fun _ _ _ h => h) (Or.inl (Or.inl ⟨by rfl, ?_⟩)) hS ?_
        rotate_left
        focus ((intro w hSw; (try dsimp only at hSw); have e1 := (HBO.out.later hSw).cell 1 _ rfl; go_simp); (try with_reducible rfl))
        intro wq' hwq
        subst hwq
        (try simp only [Act.put, List.setIfInBounds_toArray, List.set_cons_zero, List.set_cons_succ])
        refine wpAnyK_all (rs := [0, 5]) (by kernel_rfl) (by simp) (fun i hi => ?_)
        simp only [List.mem_cons, List.not_mem_nil, or_false] at hi
        rcases hi with rfl | rfl
        · refine stepK (o := { dst := some 105, op := _, type := _, pos := _, after := _, guard := _ }) rfl (fun K hK => ?_)
          go_simp
          obtain ⟨ge, hge⟩ : ∃ x, y0.heap.size = x := ⟨_, rfl⟩
          have o0 := own_emptyL y0 w2.heap.size 24 1 hS.size
          obtain ⟨y1, hy1⟩ : ∃ x, y0.alloc (.cells #[] 24) = x := ⟨_, rfl⟩
          have ly1 : Later y0 y1 := hy1 ▸ Later.new _ _
          rw [hy1, hge] at o0
          try rw [hge]
          rw [hy1]
          replace hS : Later w2 y1 := hS.trans ly1
          refine hK _ _ hS ?_
          clear hK
          intro wq' hwq
          subst hwq
          (try simp only [Act.put, List.setIfInBounds_toArray, List.set_cons_zero, List.set_cons_succ])
          refine wpAnyK_all (rs := [2, 5]) (by kernel_rfl) (by simp) (fun i hi => ?_)
          simp only [List.mem_cons, List.not_mem_nil, or_false] at hi
          rcases hi with rfl | rfl
          · refine stepK (o := { dst := some 107, op := _, type := _, pos := _, after := _, guard := _ }) rfl (fun K hK => ?_)
            refine step_append_nl rfl (.tmp 105) (.tmp 106) 33 rfl w2.heap.size 24 _ 1 24 Tryd.underlying33 info_bs rfl (by decide) _ 0 [] rfl o0 HA hs.length hc (hs.map SlB.v) rfl (HTB.out.later hS) (by rw [List.length_map, Nat.mul_one]) HNIL.out HONE.out (by unfold maxLen; omega) (by omega) hS.size ?_
            intro A1 c1 y2 o1 hgr hbel hn1
            simp only [Nat.zero_add, List.nil_append] at o1
            rw [Nat.zero_add]
            replace hS : Later w2 y2 := Later.of (hS.below.trans hbel)
            refine hK _ _ hS ?_
            clear hK
            intro wq' hwq
            subst hwq
            (try simp only [Act.put, List.setIfInBounds_toArray, List.set_cons_zero, List.set_cons_succ])
            refine wpAnyK_all (rs := [5]) (by kernel_rfl) (by simp) (fun i hi => ?_)
            simp only [List.mem_cons, List.not_mem_nil, or_false] at hi
            subst hi
            refine stepK (o := { dst := some 110, op := _, type := _, pos := _, after := _, guard := _ }) rfl (fun K hK => ?_)
            go_simp
            obtain ⟨g5, hg5⟩ : ∃ x, y2.heap.size = x := ⟨_, rfl⟩
            obtain ⟨y3, hy3⟩ : ∃ x, y2.alloc (.cells #[.slice D.b.a D.b.l.length D.b.c] 24) = x := ⟨_, rfl⟩
            have ly3 : Later y2 y3 := hy3 ▸ Later.new _ _
            have b5 : Blk y3 g5 [Value.slice D.b.a D.b.l.length D.b.c].toArray 24 := hy3 ▸ Blk.new y2 _ _ g5 hg5.symm
            try rw [hg5]
            rw [hy3]
            replace hS : Later w2 y3 := hS.trans ly3
            refine hK _ _ hS ?_
            clear hK
            intro wq' hwq
            subst hwq
            (try simp only [Act.put, List.setIfInBounds_toArray, List.set_cons_zero, List.set_cons_succ])
            replace o1 := own_later o1 ly3
            refine wpAnyK_all (rs := [6]) (by kernel_rfl) (by simp) (fun i hi => ?_)
            simp only [List.mem_cons, List.not_mem_nil, or_false] at hi
            subst hi
            refine stepK (o := { dst := some 111, op := _, type := _, pos := _, after := _, guard := _ }) rfl (fun K hK => ?_)
            refine step_append_nl rfl (.tmp 107) (.tmp 110) 33 rfl w2.heap.size 24 _ 1 24 Tryd.underlying33 info_bs rfl (by decide) _ hs.length _ rfl o1 _ 1 1 [Value.slice D.b.a D.b.l.length D.b.c] rfl (blk_hasL b5) rfl (by intro h; cases h) (by intro u hu; rw [List.mem_singleton] at hu; subst hu; rfl) (by unfold maxLen; omega) (by omega) hS.size ?_
            intro A2 c2 y4 o2 hgr2 hbel2 hn2
            replace hS : Later w2 y4 := Later.of (hS.below.trans hbel2)
            refine hK _ _ hS ?_
            clear hK
            intro wq' hwq
            subst hwq
            (try simp only [Act.put, List.setIfInBounds_toArray, List.set_cons_zero, List.set_cons_succ])
            refine wpAnyK_take (fun _ => rfl) (fun _ _ _ h k => h.trans k) (fun _ _ h k => k ▸ h) (i := 7) (oi := { dst := some 30, op := _, type := _, pos := _, after := _, guard := _ }) (v := ?_) rfl (by kernel_rfl) (by kernel_rfl) (by kernel_rfl) (fun _ _ _ h => h) (Or.inl (Or.inl ⟨by rfl, ?_⟩)) hS ?_
            rotate_left
            focus ((intro w hSw; (try dsimp only at hSw); skip; go_simp); (try with_reducible rfl))
            intro wq' hwq
            subst hwq
            (try simp only [Act.put, List.setIfInBounds_toArray, List.set_cons_zero, List.set_cons_succ])
            refine wpAnyK_done (by kernel_rfl) ?_ _
            have HS2 := Lib.hid hS
            have HO2 := Lib.hid o2
            have HN2 := Lib.hid hn2
            clear hS o2 hn2
            go_wp2_with fail
            go_meet
            exact ⟨A2, c2, rfl, HO2.out, HN2.out, HS2.out⟩
          · refine stepK (o := { dst := some 110, op := _, type := _, pos := _, after := _, guard := _ }) rfl (fun K hK => ?_)
            go_simp
            obtain ⟨g5, hg5⟩ : ∃ x, y1.heap.size = x := ⟨_, rfl⟩
            obtain ⟨y2, hy2⟩ : ∃ x, y1.alloc (.cells #[.slice D.b.a D.b.l.length D.b.c] 24) = x := ⟨_, rfl⟩
            have ly2 : Later y1 y2 := hy2 ▸ Later.new _ _
            have b5 : Blk y2 g5 [Value.slice D.b.a D.b.l.length D.b.c].toArray 24 := hy2 ▸ Blk.new y1 _ _ g5 hg5.symm
            try rw [hg5]
            rw [hy2]
            replace hS : Later w2 y2 := hS.trans ly2
            refine hK _ _ hS ?_
            clear hK
            intro wq' hwq
            subst hwq
            (try simp only [Act.put, List.setIfInBounds_toArray, List.set_cons_zero, List.set_cons_succ])
            replace o0 := own_later o0 ly2
            have hne : g5 ≠ ge := by rw [← hg5, ← hy1, ← hge]; simp
            refine wpAnyK_all (rs := [2]) (by kernel_rfl) (by simp) (fun i hi => ?_)
            simp only [List.mem_cons, List.not_mem_nil, or_false] at hi
            subst hi
            refine stepK (o := { dst := some 107, op := _, type := _, pos := _, after := _, guard := _ }) rfl (fun K hK => ?_)
            refine step_append_nl rfl (.tmp 105) (.tmp 106) 33 rfl w2.heap.size 24 _ 1 24 Tryd.underlying33 info_bs rfl (by decide) _ 0 [] rfl o0 HA hs.length hc (hs.map SlB.v) rfl (HTB.out.later hS) (by rw [List.length_map, Nat.mul_one]) HNIL.out HONE.out (by unfold maxLen; omega) (by omega) hS.size ?_
            intro A1 c1 y3 o1 hgr hbel hn1
            simp only [Nat.zero_add, List.nil_append] at o1
            rw [Nat.zero_add]
            replace hS : Later w2 y3 := Later.of (hS.below.trans hbel)
            refine hK _ _ hS ?_
            clear hK
            intro wq' hwq
            subst hwq
            (try simp only [Act.put, List.setIfInBounds_toArray, List.set_cons_zero, List.set_cons_succ])
            replace b5 : Blk y3 g5 [Value.slice D.b.a D.b.l.length D.b.c].toArray 24 := (hgr.block g5 b5.lt (by intro e; injection e with e; exact hne e)).trans b5
            refine wpAnyK_all (rs := [6]) (by kernel_rfl) (by simp) (fun i hi => ?_)
            simp only [List.mem_cons, List.not_mem_nil, or_false] at hi
            subst hi
            refine stepK (o := { dst := some 111, op := _, type := _, pos := _, after := _, guard := _ }) rfl (fun K hK => ?_)
            refine step_append_nl rfl (.tmp 107) (.tmp 110) 33 rfl w2.heap.size 24 _ 1 24 Tryd.underlying33 info_bs rfl (by decide) _ hs.length _ rfl o1 _ 1 1 [Value.slice D.b.a D.b.l.length D.b.c] rfl (blk_hasL b5) rfl (by intro h; cases h) (by intro u hu; rw [List.mem_singleton] at hu; subst hu; rfl) (by unfold maxLen; omega) (by omega) hS.size ?_
            intro A2 c2 y4 o2 hgr2 hbel2 hn2
            replace hS : Later w2 y4 := Later.of (hS.below.trans hbel2)
            refine hK _ _ hS ?_
            clear hK
            intro wq' hwq
            subst hwq
            (try simp only [Act.put, List.setIfInBounds_toArray, List.set_cons_zero, List.set_cons_succ])
            refine wpAnyK_take (fun _ => rfl) (fun _ _ _ h k => h.trans k) (fun _ _ h k => k ▸ h) (i := 7) (oi := { dst := some 30, op := _, type := _, pos := _, after := _, guard := _ }) (v := ?_) rfl (by kernel_rfl) (by kernel_rfl) (by kernel_rfl) (fun _ _ _ h => h) (Or.inl (Or.inl ⟨by rfl, ?_⟩)) hS ?_
            rotate_left
            focus ((intro w hSw; (try dsimp only at hSw); skip; go_simp); (try with_reducible rfl))
            intro wq' hwq
            subst hwq
            (try simp only [Act.put, List.setIfInBounds_toArray, List.set_cons_zero, List.set_cons_succ])
            refine wpAnyK_done (by kernel_rfl) ?_ _
            have HS2 := Lib.hid hS
            have HO2 := Lib.hid o2
            have HN2 := Lib.hid hn2
            clear hS o2 hn2
            go_wp2_with fail
            go_meet
            exact ⟨A2, c2, rfl, HO2.out, HN2.out, HS2.out⟩
        · refine stepK (o := { dst := some 110, op := _, type := _, pos := _, after := _, guard := _ }) rfl (fun K hK => ?_)
          go_simp
          obtain ⟨g5, hg5⟩ : ∃ x, y0.heap.size = x := ⟨_, rfl⟩
          obtain ⟨y1, hy1⟩ : ∃ x, y0.alloc (.cells #[.slice D.b.a D.b.l.length D.b.c] 24) = x := ⟨_, rfl⟩
          have ly1 : Later y0 y1 := hy1 ▸ Later.new _ _
          have b5 : Blk y1 g5 [Value.slice D.b.a D.b.l.length D.b.c].toArray 24 := hy1 ▸ Blk.new y0 _ _ g5 hg5.symm
          try rw [hg5]
          rw [hy1]
          replace hS : Later w2 y1 := hS.trans ly1
          refine hK _ _ hS ?_
          clear hK
          intro wq' hwq
          subst hwq
          (try simp only [Act.put, List.setIfInBounds_toArray, List.set_cons_zero, List.set_cons_succ])
          refine wpAnyK_all (rs := [0]) (by kernel_rfl) (by simp) (fun i hi => ?_)
          simp only [List.mem_cons, List.not_mem_nil, or_false] at hi
          subst hi
          refine stepK (o := { dst := some 105, op := _, type := _, pos := _, after := _, guard := _ }) rfl (fun K hK => ?_)
          go_simp
          obtain ⟨ge, hge⟩ : ∃ x, y1.heap.size = x := ⟨_, rfl⟩
          have o0 := own_emptyL y1 w2.heap.size 24 1 hS.size
          obtain ⟨y2, hy2⟩ : ∃ x, y1.alloc (.cells #[] 24) = x := ⟨_, rfl⟩
          have ly2 : Later y1 y2 := hy2 ▸ Later.new _ _
          rw [hy2, hge] at o0
          try rw [hge]
          rw [hy2]
          replace hS : Later w2 y2 := hS.trans ly2
          refine hK _ _ hS ?_
          clear hK
          intro wq' hwq
          subst hwq
          (try simp only [Act.put, List.setIfInBounds_toArray, List.set_cons_zero, List.set_cons_succ])
          have hlt5 := b5.lt
          replace b5 := b5.later ly2
          have hne : g5 ≠ ge := by rw [← hge]; omega
          refine wpAnyK_all (rs := [2]) (by kernel_rfl) (by simp) (fun i hi => ?_)
          simp only [List.mem_cons, List.not_mem_nil, or_false] at hi
          subst hi
          refine stepK (o := { dst := some 107, op := _, type := _, pos := _, after := _, guard := _ }) rfl (fun K hK => ?_)
          refine step_append_nl rfl (.tmp 105) (.tmp 106) 33 rfl w2.heap.size 24 _ 1 24 Tryd.underlying33 info_bs rfl (by decide) _ 0 [] rfl o0 HA hs.length hc (hs.map SlB.v) rfl (HTB.out.later hS) (by rw [List.length_map, Nat.mul_one]) HNIL.out HONE.out (by unfold maxLen; omega) (by omega) hS.size ?_
          intro A1 c1 y3 o1 hgr hbel hn1
          simp only [Nat.zero_add, List.nil_append] at o1
          rw [Nat.zero_add]
          replace hS : Later w2 y3 := Later.of (hS.below.trans hbel)
          refine hK _ _ hS ?_
          clear hK
          intro wq' hwq
          subst hwq
          (try simp only [Act.put, List.setIfInBounds_toArray, List.set_cons_zero, List.set_cons_succ])
          replace b5 : Blk y3 g5 [Value.slice D.b.a D.b.l.length D.b.c].toArray 24 := (hgr.block g5 b5.lt (by intro e; injection e with e; exact hne e)).trans b5
          refine wpAnyK_all (rs := [6]) (by kernel_rfl) (by simp) (fun i hi => ?_)
          simp only [List.mem_cons, List.not_mem_nil, or_false] at hi
          subst hi
          refine stepK (o := { dst := some 111, op := _, type := _, pos := _, after := _, guard := _ }) rfl (fun K hK => ?_)
          refine step_append_nl rfl (.tmp 107) (.tmp 110) 33 rfl w2.heap.size 24 _ 1 24 Tryd.underlying33 info_bs rfl (by decide) _ hs.length _ rfl o1 _ 1 1 [Value.slice D.b.a D.b.l.length D.b.c] rfl (blk_hasL b5) rfl (by intro h; cases h) (by intro u hu; rw [List.mem_singleton] at hu; subst hu; rfl) (by unfold maxLen; omega) (by omega) hS.size ?_
          intro A2 c2 y4 o2 hgr2 hbel2 hn2
          replace hS : Later w2 y4 := Later.of (hS.below.trans hbel2)
          refine hK _ _ hS ?_
          clear hK
          intro wq' hwq
          subst hwq
          (try simp only [Act.put, List.setIfInBounds_toArray, List.set_cons_zero, List.set_cons_succ])
          refine wpAnyK_take (fun _ => rfl) (fun _ _ _ h k => h.trans k) (fun _ _ h k => k ▸ h) (i := 7) (oi := { dst := some 30, op := _, type := _, pos := _, after := _, guard := _ }) (v := ?_) rfl (by kernel_rfl) (by kernel_rfl) (by kernel_rfl) (fun _ _ _ h => h) (Or.inl (Or.inl ⟨by rfl, ?_⟩)) hS ?_
          rotate_left
          focus ((intro w hSw; (try dsimp only at hSw); skip; go_simp); (try with_reducible rfl))
          intro wq' hwq
          subst hwq
          (try simp only [Act.put, List.setIfInBounds_toArray, List.set_cons_zero, List.set_cons_succ])
          refine wpAnyK_done (by kernel_rfl) ?_ _
          have HS2 := Lib.hid hS
          have HO2 := Lib.hid o2
          have HN2 := Lib.hid hn2
          clear hS o2 hn2
          go_wp2_with fail
          go_meet
          exact ⟨A2, c2, rfl, HO2.out, HN2.out, HS2.out⟩
      case rest =>
      obtain ⟨A', c', rfl, hown, hnil, l3⟩ := hcut
      have HLX3 := Lib.hid (HLX.out.trans l3)
      have HLT3 := Lib.hid ((HLT2.out.ltLater l3 HQ1.out).here.flat (f' := 0) HRF.out)
      have HH3 := Lib.hid (HH2.out.later l3)
      have HP3 := Lib.hid (HP2.out.later l3)
      have HW3 := Lib.hid (show wb ≤ wc.heap.size from Nat.le_trans HWB.out (Nat.le_trans (Nat.le_trans (by rw [← HW2.out]; exact (Later.new _ _).size) (Nat.le_refl _)) l3.size))
      have hEB : El W1 wc D.b := ⟨HOK.out.2.2.2.1.1, by have := HLD.out.1; omega, .inl ((HOK.out.2.2.2.1.later HL1.out).2.1)⟩
      have HN3 := Lib.hid (show Tab W1 wc wb A' (hs.length + 1) c' (hs ++ [D.b]) from ⟨by rw [List.length_append]; rfl, by
        rw [List.map_append]
        exact own_mono hown (Nat.le_trans HWB.out (by rw [← HW2.out]; exact (Later.new _ _).size)), fun s hs' => by
        rcases List.mem_append.1 hs' with h | h
        · exact HH3.out.2.2.1 s h
        · rw [List.mem_singleton] at h; rw [h]; exact hEB, hnil⟩)
      have HB3 := Lib.hid (HBO.out.later l3)
      have e0c := (HB3.out).cell 0 _ rfl
      have e1c := (HB3.out).cell 1 _ rfl
      have e2c := (HB3.out).cell 2 _ rfl
      have HEB := Lib.hid hEB
      have HSB := Lib.hid ((S21B.of (HS.out.later HL1.out)).later HLX3.out)
      have hkl := Int.lt_tmod_of_pos D.k (show (0 : Int) < 8 by decide)
      have hkh := Int.tmod_lt_of_pos D.k (show (0 : Int) < 8 by decide)
      obtain ⟨k5, hk5⟩ : ∃ x, D.k.tmod 8 = x := ⟨_, rfl⟩
      rw [hk5] at hkl hkh
      have hkw : IntKind.i64.wrap k5 = k5 := IntWalk.i64_in _ ⟨by omega, by omega⟩
      have HHSL := Lib.hid (show ∀ x ∈ hs.map (·.l), x.length ≤ 65536 from fun x hx => by
        obtain ⟨s, hs', rfl⟩ := List.mem_map.1 hx
        have := (HH3.out.2.2.1 s hs').2.1
        omega)
      clear hown hnil l3 hEB HBO HTB HNIL HONE HH2 HP2 HLT2 HLX HW2
      by_cases h5 : k5 = 5
      · have hk55 : (k5 == 5) = true := by rw [h5]; rfl
        have e2a := (HB3.out.later (Later.new wc (.cells #[] 24))).cell 2 _ rfl
        have HOE := Lib.hid (own_emptyL wc wc.heap.size 24 1 (Nat.le_refl _))
        have HLL := Lib.hid HOK.out.2.2.2.2.2
        have hll5 : D.l.length ≤ 5 := HLD.out.2.1
        have hL300 := HLD.out.2.2.2
        have HXS := Lib.hid (((HLL.out.later (HL1.out.trans HLX3.out)).later (Later.new wc (.cells #[] 24))).2.1)
        have HX1 := Lib.hid (show ∀ u ∈ D.l.map SlB.v, u.oneCell' = true from fun u hu => by
          obtain ⟨s, _, rfl⟩ := List.mem_map.1 hu
          rfl)
        have HXN := Lib.hid HLL.out.2.2.2.1
        have HXL := Lib.hid (show (D.l.map SlB.v).length = D.l.length * 1 from by rw [List.length_map, Nat.mul_one])
        have HL300 := Lib.hid hL300
        clear h5 hL300
        go_wp2_with (at_builtin; go_loud (refine wpList_append_g _ rfl (.tmp 116) (.tmp 118) 33 rfl wc.heap.size 24 _ 1 24 Tryd.underlying33 info_bs rfl (by decide) _ 0 _ rfl HOE.out D.la D.l.length D.lc (D.l.map SlB.v) rfl HXS.out HXL.out HXN.out HX1.out (by unfold maxLen; omega) (by omega) (by simp) ?_); rintro A5 c5 w5' hO hgr hbel hn2; simp only [Nat.zero_add, List.nil_append] at hO; have HO5 := Lib.hid hO; have HN5 := Lib.hid hn2; have HL5 := Lib.hid (show Later wc w5' from Later.of ((Later.new wc (.cells #[] 24)).below.trans hbel)); have e2b := (HB3.out.later HL5.out).cell 2 _ rfl; clear hO hn2 hbel hgr)
        have HLX5 := Lib.hid (HLX3.out.trans HL5.out)
        have HLT5 := Lib.hid ((HLT3.out.ltLater HL5.out HQ1.out).here)
        have HH5 := Lib.hid (HH3.out.later HL5.out)
        have HP5 := Lib.hid (HP3.out.later HL5.out)
        have HW5 := Lib.hid (Nat.le_trans HW3.out HL5.out.size)
        have HT5 := Lib.hid (show Tab W1 w5' wb A5 D.l.length c5 D.l from ⟨rfl, own_mono HO5.out HW3.out, fun s hs' => ⟨(HLL.out.2.2.1 s hs').1, by have := HL300.out s hs'; omega, .inl ((HLL.out.2.2.1 s hs').later HL1.out).2.1⟩, HN5.out⟩)
        obtain ⟨⟨cs5, cn5, AA5, cf5, hda5, hqb5, _, _⟩, hdw5⟩ := id HLT5.out
        have HNQ := Lib.hid (NotQ.blk hqb5)
        have HAN := Lib.hid (logAnew_tt W1.heap.size p gs gn B cs5 cn5 AA5 cf5 δ q1 area g used D.la D.l.length D.lc D.l a w5' 0 wn hda5 HB1.out.2 hqb5 HFT.out (by omega) hdw5 (by omega) (by omega) HQ1.out rfl (by omega)
          (fun W _ hb => by
            have hl : Later w W := HL1.out.trans (show Later W1 W from (show Below W1.heap.size W1 w5' from HLX5.out.below).trans hb)
            exact ⟨(HLL.out.later hl).2.1, fun s hs' => ((HLL.out.2.2.1 s hs').later hl).2.1⟩)
          (fun s hs' => by
            have h1 := HL300.out s hs'
            have h2 := HLL.out.2.2.1 s hs'
            exact ⟨by omega, h2.1, h2.2.2.1⟩) (HSB.out.later HL5.out))
        clear hda5 hqb5 hdw5 HOE HXS HX1 HXN HXL e2a HO5 HN5
        go_wp2_with fail
        refine HAN.out.mono ?_
        rintro e w4 ⟨rfl, ⟨hz, l4⟩ | ⟨hz, hlt4⟩⟩
        · obtain ⟨F, hF⟩ : ∃ x, fitsE (area : Int) (D.l.map (·.l)) = x := ⟨_, rfl⟩
          rw [hF] at hz ⊢
          have hb : (F != 0) = true := by rw [bne_iff_ne]; exact hz
          have HL4 := Lib.hid (HLX5.out.trans l4)
          have HH4 := Lib.hid (HH5.out.later l4)
          have HP4 := Lib.hid (HP5.out.later l4)
          have HLT4 := Lib.hid (((HLT5.out.ltLater l4 HQ1.out).here).more (f' := 60) (wn' := wn) (by omega) (Nat.le_refl _))
          have HW4 := Lib.hid (Nat.le_trans HW5.out l4.size)
          clear hz hF l4 HAN
          go_wp2_with fail
          go_roundw
          case rel => exact CrP.mk _ (i + 1) g used wn _ _ _ _ _ _ hs os δ (by go_num) (by omega) HH4.out HP4.out HLT4.out (by omega) hg1 hus (by omega) HHS.out HOS.out (safe_flat hA1000 HRF.out HRS.out HRL.out ⟨hg1, by omega⟩ HHSL.out) (fun _ => ⟨HRF.out, HRS.out, HRU.out, HRL.out⟩) HL4.out HW4.out
          case measure => simp [intOf]; omega
        · have hsum : sumN (D.l.map (·.l)) ≤ area := by
            unfold fitsE at hz
            split at hz
            · split at hz
              · cases hz
              · omega
            · cases hz
          obtain ⟨sl, hsl⟩ : ∃ x, x = sumN (D.l.map (·.l)) := ⟨_, rfl⟩
          rw [← hsl] at hlt4 hsum
          rw [hz]
          have HL4 := Lib.hid (show Later W1 w4 from (show Below W1.heap.size W1 w5' from HLX5.out.below).trans hlt4.below)
          have HH4 := Lib.hid (HH5.out.kl hlt4.kl HNQ.out (HH5.out.off HG5.out.1 HG5.out.2))
          have HN4 := Lib.hid (HT5.out.kl hlt4.kl HNQ.out (HT5.out.off HG5.out.1 HG5.out.2))
          have HW4 := Lib.hid (Nat.le_trans HW5.out hlt4.kl.2.2.2.1)
          have hA25 : area ≤ 25 := HA41.out.2
          have HNS := Lib.hid (show sumN (D.l.map (·.l)) = sl from hsl.symm)
          have HNL4 := Lib.hid (show ∀ x ∈ D.l.map (·.l), x.length ≤ 65536 from fun x hx => by
            obtain ⟨s, hs', rfl⟩ := List.mem_map.1 hx
            have := HL300.out s hs'
            omega)
          have hsf := anew_safe (area := area) (g := g) (R := hs.map (·.l)) (R2 := D.l.map (·.l)) (d := δ) hA1000 ⟨hg1, by omega⟩ HRF.out HRS.out (HRL.out.seen ⟨hg1, by omega⟩ hA1000 HHSL.out) HNL4.out (by rw [HNS.out]; exact hsum)
          obtain ⟨δ4, hδ4⟩ : ∃ x, x = anewT (g + 1) area (D.l.map (·.l)) δ := ⟨_, rfl⟩
          rw [← hδ4] at hsf hlt4
          have HSF := Lib.hid hsf
          have HLT4 := Lib.hid hlt4.here
          clear hsf hlt4 hδ4 hz hsl HAN
          have hst4 := HLT4.out
          obtain ⟨⟨cs4, cn4, A4, cf4, hda4, _, _, _⟩, _⟩ := hst4
          have HSTP := Lib.hid (devStopped_any p δ4.stops δ4.left w4 hda4.c4 hda4.c5)
          obtain ⟨st4, hst4⟩ : ∃ b, (δ4.stops && decide (δ4.left ≤ 0)) = b := ⟨_, rfl⟩
          rw [hst4] at HSTP
          have HST4 := Lib.hid (show δ4.stopped = st4 from hst4)
          clear hda4 hst4
          go_wp2_with fail
          refine HSTP.out.mono ?_
          rintro e w4' ⟨rfl, rfl⟩
          clear HSTP
          rcases st4 with _ | _
          · have hrun4 := HSF.out.2 HST4.out
            have HRUN4 := Lib.hid hrun4
            clear hrun4
            go_wp2_with fail
            go_roundw
            case rel => exact CrP.mk _ (i + 1) (g + 1) sl (wn + area + sl + 1) _ _ _ _ _ _ D.l D.l δ4 (by go_num) (by omega) HN4.out HN4.out (HLT4.out.flat HRUN4.out.1) (by omega) (by omega) (by omega) (by omega) (by rw [HNS.out]; omega) (by rw [HNS.out]; omega) (safe_flat hA1000 HRUN4.out.1 HRUN4.out.2.1 HRUN4.out.2.2 ⟨by omega, by omega⟩ HNL4.out) (fun _ => ⟨HRUN4.out.1, HRUN4.out.2.1, by rw [HNS.out], HRUN4.out.2.2⟩) HL4.out HW4.out
            case measure => simp [intOf]; omega
          · go_wp2_with fail
            go_roundw
            case rel => exact CrP.mk _ (i + 1) (g + 1) sl (wn + area + sl + 1) _ _ _ _ _ _ hs D.l δ4 (by go_num) (by omega) HH4.out HN4.out (HLT4.out.more (by omega) (Nat.le_refl _)) (by omega) (by omega) (by omega) (by omega) HHS.out (by rw [HNS.out]; omega) (fun keep torn at_ => by
              rcases HSF.out.1 keep torn at_ with h | h
              · exact ⟨_, _, h, by omega, by omega, .inl rfl⟩
              · exact ⟨_, _, h, by omega, by omega, .inr rfl⟩) (fun h => by rw [HST4.out] at h; cases h) HL4.out HW4.out
            case measure => simp [intOf]; omega
      · have hk55 : (k5 == 5) = false := by rw [beq_eq_false_iff_ne]; exact h5
        obtain ⟨bl, hbl⟩ : ∃ x, x = blkN D.b.l.length := ⟨_, rfl⟩
        have hb7 : 1 ≤ bl ∧ bl ≤ 7 := by rw [hbl]; have := HLD.out.1; unfold blkN; omega
        have HBL := Lib.hid hbl
        have HAP := Lib.hid (logAppend_t W1.heap.size p gs gn B q1 area g used 0 wn δ D.b.a D.b.c D.b.l a wc wc HLT3.out HB1.out.2 HFT.out (by omega) (by omega) (by omega) HQ1.out hus (HEB.out.has HLX3.out) HOK.out.2.2.2.1.2.2.1 HEB.out.2.1 HEB.out.1 HSB.out)
        clear hbl h5
        go_wp2_with fail
        refine HAP.out.mono ?_
        rintro e w4 ⟨rfl, ⟨hz, hlt4⟩ | ⟨hz, hlt4⟩⟩
        · obtain ⟨F, hF⟩ : ∃ x, fitsE ((area : Int) - (used : Int)) [D.b.l] = x := ⟨_, rfl⟩
          rw [hF] at hz ⊢
          have hb : (F != 0) = true := by rw [bne_iff_ne]; exact hz
          have HL4 := Lib.hid (show Later W1 w4 from (show Below W1.heap.size W1 wc from HLX3.out.below).trans hlt4.below)
          have HH4 := Lib.hid (HH3.out.kl hlt4.kl (NotQ.blk HLT3.out.blk) (HH3.out.off HG5.out.1 HG5.out.2))
          have HP4 := Lib.hid (HP3.out.kl hlt4.kl (NotQ.blk HLT3.out.blk) (HP3.out.off HG5.out.1 HG5.out.2))
          have HLT4 := Lib.hid (hlt4.here.more (f' := 60) (wn' := wn) (by omega) (Nat.le_refl _))
          have HW4 := Lib.hid (Nat.le_trans HW3.out hlt4.kl.2.2.2.1)
          clear hz hF hlt4 HAP
          go_wp2_with fail
          go_roundw
          case rel => exact CrP.mk _ (i + 1) g used wn _ _ _ _ _ _ hs os δ (by go_num) (by omega) HH4.out HP4.out HLT4.out (by omega) hg1 hus (by omega) HHS.out HOS.out (safe_flat hA1000 HRF.out HRS.out HRL.out ⟨hg1, by omega⟩ HHSL.out) (fun _ => ⟨HRF.out, HRS.out, HRU.out, HRL.out⟩) HL4.out HW4.out
          case measure => simp [intOf]; omega
        · have hroom : used + bl ≤ area := by
            rw [fitsE_1 (by have := HEB.out.2.1; omega), ← HBL.out] at hz
            split at hz
            · cases hz
            · omega
          rw [← HBL.out] at hlt4
          rw [hz]
          have HL4 := Lib.hid (show Later W1 w4 from (show Below W1.heap.size W1 wc from HLX3.out.below).trans hlt4.below)
          have HH4 := Lib.hid (HH3.out.kl hlt4.kl (NotQ.blk HLT3.out.blk) (HH3.out.off HG5.out.1 HG5.out.2))
          have HN4 := Lib.hid (HN3.out.kl hlt4.kl (NotQ.blk HLT3.out.blk) (HN3.out.off HG5.out.1 HG5.out.2))
          have HW4 := Lib.hid (Nat.le_trans HW3.out hlt4.kl.2.2.2.1)
          have HNM := Lib.hid (show (hs ++ [D.b]).map (·.l) = hs.map (·.l) ++ [D.b.l] from by rw [List.map_append]; rfl)
          have HNS := Lib.hid (show sumN ((hs ++ [D.b]).map (·.l)) = used + bl from by rw [HNM.out, sumN_snoc, ← HRU.out, HBL.out])
          have HNL4 := Lib.hid (show ∀ x ∈ (hs ++ [D.b]).map (·.l), x.length ≤ 65536 from fun x hx => by
            obtain ⟨s, hs', rfl⟩ := List.mem_map.1 hx
            have := (HN3.out.2.2.1 s hs').2.1
            omega)
          have hsf := append_safe (area := area) (g := g) (R := hs.map (·.l)) (r := D.b.l) (d := δ) hA1000 ⟨hg1, by omega⟩ HRF.out HRS.out HRL.out HHSL.out (by have := HEB.out.2.1; omega) (by rw [← HRU.out, ← HBL.out]; exact hroom)
          rw [← HRU.out, ← HBL.out] at hsf
          obtain ⟨δ4, hδ4⟩ : ∃ x, x = (layT g (offG area g) used D.b.l δ bl).flT := ⟨_, rfl⟩
          rw [← hδ4] at hsf hlt4
          have HSF := Lib.hid hsf
          have HLT4 := Lib.hid hlt4.here
          clear hsf hlt4 hδ4 hz HAP
          have hst4 := HLT4.out
          obtain ⟨⟨cs4, cn4, A4, cf4, hda4, _, _, _⟩, _⟩ := hst4
          have HSTP := Lib.hid (devStopped_any p δ4.stops δ4.left w4 hda4.c4 hda4.c5)
          obtain ⟨st4, hst4⟩ : ∃ b, (δ4.stops && decide (δ4.left ≤ 0)) = b := ⟨_, rfl⟩
          rw [hst4] at HSTP
          have HST4 := Lib.hid (show δ4.stopped = st4 from hst4)
          clear hda4 hst4
          go_wp2_with fail
          refine HSTP.out.mono ?_
          rintro e w4' ⟨rfl, rfl⟩
          clear HSTP
          rcases st4 with _ | _
          · have hrun4 := HSF.out.2 HST4.out
            have HRUN4 := Lib.hid hrun4
            clear hrun4
            go_wp2_with fail
            go_roundw
            case rel => exact CrP.mk _ (i + 1) g (used + bl) (wn + bl) _ _ _ _ _ _ (hs ++ [D.b]) (hs ++ [D.b]) δ4 (by go_num) (by omega) HN4.out HN4.out (HLT4.out.flat HRUN4.out.1) (by omega) (by omega) (by omega) (by omega) (by rw [HNS.out]; omega) (by rw [HNS.out]; omega) (safe_flat hA1000 HRUN4.out.1 HRUN4.out.2.1 (by rw [HNM.out]; exact HRUN4.out.2.2) ⟨by omega, by omega⟩ HNL4.out) (fun _ => ⟨HRUN4.out.1, HRUN4.out.2.1, by rw [HNS.out], by rw [HNM.out]; exact HRUN4.out.2.2⟩) HL4.out HW4.out
            case measure => simp [intOf]; omega
          · go_wp2_with fail
            go_roundw
            case rel => exact CrP.mk _ (i + 1) g (used + bl) (wn + bl) _ _ _ _ _ _ hs (hs ++ [D.b]) δ4 (by go_num) (by omega) HH4.out HN4.out (HLT4.out.more (by omega) (Nat.le_refl _)) (by omega) (by omega) (by omega) (by omega) HHS.out (by rw [HNS.out]; omega) (fun keep torn at_ => by
              rcases HSF.out.1 keep torn at_ with h | h
              · exact ⟨_, _, h, by omega, by omega, .inl rfl⟩
              · exact ⟨_, _, h, by omega, by omega, .inr HNM.out.symm⟩) (fun h => by rw [HST4.out] at h; cases h) HL4.out HW4.out
            case measure => simp [intOf]; omega
set_option maxRecDepth 100000 in
theorem logCrashes_out (ar : Int) (LA : Option Addr) (n lc : Nat) (ds : List DeedL) (st : Int) (KA : Option Addr) (kn kc : Nat) (torn at_ : Int) (ag : Int) (MA : Option Addr) (mn mc : Nat) (torn2 at2 : Int) (a : Addr) (w : World)
    (hs : S21 w a) (hds : IsDeedsL w LA n lc ds) (ho : ¬ (Lights ds ∧ kn ≤ 40 ∧ mn ≤ 40)) (hkn : kn ≤ 9223372036854775807) (hmn : mn ≤ 9223372036854775807) :
    Calls Tryd.prog 3 #[.int .u8 ar, .slice LA n lc, .int .u16 st, .slice KA kn kc, .int .i64 torn, .int .i64 at_, .int .u8 ag, .slice MA mn mc, .int .i64 torn2, .int .i64 at2] w fun e w' => e = .returned (.bool true) ∧ Later w w' := by
  have HB := Lib.hid (begun21_any a w hs)
  have HDS := Lib.hid hds
  have HO := Lib.hid ho
  clear hs hds ho
  go_enter Tryd.func3, Tryd.ntmps3
  go_wp2_with fail
  refine HB.out.mono ?_
  rintro e w1 ⟨rfl, l1⟩
  have HL1 := Lib.hid l1
  have HLT := Lib.hid (light21_any LA n lc ds w1 (HDS.out.later l1))
  clear l1 HB
  go_wp2_with fail
  refine HLT.out.mono ?_
  rintro e w1' ⟨b, hb, rfl, rfl⟩
  rcases b with _ | _
  · clear hb HLT
    go_wp2_with fail
    go_ret
    exact ⟨rfl, HL1.out⟩
  · have HLI := Lib.hid (hb.1 rfl)
    clear hb HLT
    by_cases h1 : kn ≤ 40
    · by_cases h2 : mn ≤ 40
      · exact absurd ⟨HLI.out, h1, h2⟩ HO.out
      · have d1 : decide ((40 : Int) < (kn : Int)) = false := by simp; omega
        have d2 : decide ((40 : Int) < (mn : Int)) = true := by simp; omega
        clear HO
        go_wp2_with fail
        go_ret
        exact ⟨rfl, HL1.out⟩
    · have d1 : decide ((40 : Int) < (kn : Int)) = true := by simp; omega
      clear HO
      go_wp2_with fail
      go_ret
      exact ⟨rfl, HL1.out⟩
theorem wf_u16'' (n : Int) (h : (Lit.int .u16 n).wf = true) : 0 ≤ n ∧ n < (65536 : Nat) := by
  simp [Lit.wf, IntKind.min, IntKind.max, IntKind.signed, IntKind.bits] at h
  omega
end Go.Proofs.YtfplppldojlanaaDoor
