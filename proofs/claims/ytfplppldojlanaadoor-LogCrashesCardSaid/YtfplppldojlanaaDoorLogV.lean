/- Make on any device; what Anew leaves of a device that runs; tables beside a log. (tools/gen_logv.py) -/
import Derived.Test.YtfplppldojlanaaDoorLogZ
import Derived.Test.YtfplppldojlanaaDoorLogU
namespace Go.Proofs.YtfplppldojlanaaDoor
open Go.RowKit
set_option linter.unusedVariables false

def MakeT (base p gs gn B area f wn : Nat) (d : D) (L : List (List Nat)) (w : World) (e : Ending) (w' : World) : Prop :=
  e = .returned (.int .i64 (fitsE area L)) ∧
  ((fitsE area L ≠ 0 ∧ Later w w') ∨ (fitsE area L = 0 ∧ ∃ q, w.heap.size ≤ q ∧ LT base p gs gn B q area 1 (sumN L) (f + area + sumN L + 1) (wn + area + sumN L + 1) (anewT 1 area L d) w w'))
set_option maxRecDepth 100000 in
set_option maxHeartbeats 1000000 in
theorem logMake_t (base p gs gn B cs cn : Nat) (A : Option Addr) (cf : Nat) (d : D) (area : Nat) (T : Option Addr) (c : Nat) (ss : List SlB) (a : Addr) (w : World) (f wn : Nat) (h : DA w base p gs gn B cs cn A cf d) (hB : B ≤ 4000) (hf : FitsD B area) (hd : DW B f wn d) (hfl : f ≤ 20000) (hwn : wn ≤ 20000) (hbw : base ≤ w.heap.size)
    (hl : ss.length ≤ 1000) (hstab : ∀ q W, w.heap.size ≤ q → KL gs gn q w W → Below base w W → Has W T (ss.map SlB.v) ∧ ∀ s ∈ ss, Has W s.a (ints .u8 s.l)) (hs : ∀ s ∈ ss, s.l.length ≤ 990 ∧ (∀ x ∈ s.l, x < 256) ∧ (s.a = none → s.c = 0)) (hse : S21B base w a) :
    Calls Tryd.prog 11 #[dptr p, .int .i64 area, .slice T ss.length c] w (MakeT base p gs gn B area f wn d (ss.map (·.l)) w) := by
  have HC := Lib.hid (logCheck_any base p gs gn B cs cn A cf d area w h hB)
  have HAN := Lib.hid (fun (w1 w2 : World) (q : Nat) (l : Later w w1) (hw2 : w1.alloc (.cells #[dptr p, .int .i64 (area : Int), .int .u32 0, .int .i64 0] 61) = w2) (hq : w1.heap.size = q) =>
    logAnew_tt base p gs gn B cs cn A cf d q area 0 0 T ss.length c ss a w2 f wn (h.later (l.trans (hw2 ▸ Later.new _ _))) hB (show LogBk w2 q p area 0 0 from hw2 ▸ Blk.new w1 _ _ q hq.symm) hf (by decide) hd hfl hwn (by have := l.size; omega) rfl hl
      (fun W hk hb => hstab q W (by have := l.size; omega) ((KL.later (l.trans (hw2 ▸ Later.new _ _))).trans hk) ((Below.mono (l.trans (show Later w1 w2 from hw2 ▸ Later.new _ _)).below hbw).trans hb)) hs (hse.later (l.trans (hw2 ▸ Later.new _ _))))
  have HF := Lib.hid hf
  clear h hf hd hstab hs hse
  go_enter Tryd.func11, Tryd.ntmps11
  go_wp2_with fail
  refine HC.out.mono ?_
  rintro e w1 ⟨⟨-, rfl⟩ | ⟨hf, -⟩, l1⟩
  · obtain ⟨q, hq⟩ : ∃ x, w1.heap.size = x := ⟨_, rfl⟩
    obtain ⟨w2, hw2⟩ : ∃ x, w1.alloc (.cells #[dptr p, .int .i64 (area : Int), .int .u32 0, .int .i64 0] 61) = x := ⟨_, rfl⟩
    have HA := Lib.hid (HAN.out w1 w2 q l1 hw2 hq)
    have HL2 := Lib.hid (l1.trans (show Later w1 w2 from hw2 ▸ Later.new _ _))
    have HQ := Lib.hid (show w.heap.size ≤ q from by have := l1.size; omega)
    have HW := Lib.hid hw2
    have HQE := Lib.hid hq
    clear hw2 hq l1 HAN HC
    go_wp2_with fail
    try rw [HQE.out]
    rw [HW.out]
    refine HA.out.mono ?_
    rintro e w3 ⟨rfl, hr⟩
    have HR := Lib.hid hr
    clear hr HA
    go_wp2_with fail
    go_ret
    refine ⟨rfl, ?_⟩
    rcases HR.out with ⟨h1, h2⟩ | ⟨h1, h3⟩
    · exact .inl ⟨h1, HL2.out.trans h2⟩
    · exact .inr ⟨h1, q, HQ.out, h3.ltFrom HL2.out hbw⟩
  · exact absurd HF.out hf

theorem layT_stop {gen off u : Nat} {r : List Nat} {d : D} : ∀ k, (layT gen off u r d k).stopped = false → d.stopped = false
  | 0, h => h
  | k + 1, h => layT_stop k (wrT_run h).1
theorem laysT_stop {gen off : Nat} : ∀ (L : List (List Nat)) (u : Nat) (d : D), (laysT gen off u L d).stopped = false → d.stopped = false
  | [], _, _, h => h
  | r :: rs, u, d, h => layT_stop _ (laysT_stop rs _ _ h)
theorem anew_full {area gen : Nat} {R2 : List (List Nat)} {d : D} (hfl : d.fly = []) (hco : d.sure = d.now) (hlen : 2 + 2 * area ≤ d.now.length) (hsum : sumN R2 ≤ area) (hrun : (anewT gen area R2 d).stopped = false) :
    (anewT gen area R2 d).fly = [] ∧ (anewT gen area R2 d).sure = (anewT gen area R2 d).now ∧ (anewT gen area R2 d).now = (putAt d.now (offG area gen) (layR gen 0 R2 ++ List.replicate (area - sumN R2) (List.replicate 128 0))).set (gen % 2) (tagB gen 4294967295 []) := by
  have hof := offG_le (gen := gen) hlen
  have hc0 : Coh d := Coh.flat hco hfl
  have hp0 : PhA d.now (offG area gen) area d := ⟨by rw [hco]; exact Agree.refl _ _ _, fun x hx => by rw [hfl] at hx; cases hx⟩
  have hz := zeroT_ph hp0 hc0 area (Nat.le_refl _)
  have hzn := zeroT_now (d := d) hof area (Nat.le_refl _)
  obtain ⟨d1, hd1⟩ : ∃ x, x = (zeroT (offG area gen) d area).flT := ⟨_, rfl⟩
  have hc1 : Coh d1 := by rw [hd1]; exact hz.2.flT
  have hp1 : PhA d.now (offG area gen) area d1 := by rw [hd1]; exact hz.1.flT
  have hl := laysT_ph (gen := gen) R2 0 d1 hp1 hc1 (by omega)
  obtain ⟨dl, hdl⟩ : ∃ x, x = (laysT gen (offG area gen) 0 R2 d1).flT := ⟨_, rfl⟩
  have hc2 : Coh dl := by rw [hdl]; exact hl.2.flT
  have he : anewT gen area R2 d = (dl.wrT (gen % 2) (tagB gen 4294967295 [])).flT := by unfold anewT; rw [hdl, hd1]
  rw [he] at hrun ⊢
  obtain ⟨h1, h2⟩ := flT_run hrun
  obtain ⟨h3, h4⟩ := wrT_run h1
  have hs := h3
  have hld := flT_run (d := laysT gen (offG area gen) 0 R2 d1) (by rw [← hdl]; exact hs)
  rw [← hdl] at hld
  have hz1 := flT_run (d := zeroT (offG area gen) d area) (by rw [← hd1]; exact laysT_stop _ _ _ hld.1)
  rw [← hd1] at hz1
  have hz128 : (List.replicate area (List.replicate 128 0)).length = area := by simp
  have hn1 : d1.now = putAt d.now (offG area gen) (List.replicate area (List.replicate 128 0)) := by
    rw [hz1.2]
    show (zeroT (offG area gen) d area).now = _
    rw [(hzn hz1.1).2, List.drop_of_length_le (by rw [List.length_take, List.length_drop]; omega), List.append_nil]
  have hn1l : d1.now.length = d.now.length := by rw [hn1, putAt_len (by rw [hz128]; exact hof)]
  have har : (d1.now.drop (offG area gen)).take area = ([] : List (List Nat)) ++ List.replicate (area - ([] : List (List Nat)).length) (List.replicate 128 0) := by
    have := areaG_put (area := area) (gen := gen) (now := d.now) (L := List.replicate area (List.replicate 128 0)) hlen hz128
    unfold areaG at this
    rw [hn1, this]; rfl
  have hln := (laysT_now (gen := gen) (List.replicate 128 0) R2 [] d1 (by rw [hn1l]; exact hof) (by simpa using hsum) har hld.1).2
  have hX2 : dl.now = putAt d.now (offG area gen) (layR gen 0 R2 ++ List.replicate (area - sumN R2) (List.replicate 128 0)) := by
    rw [hld.2]
    show (laysT gen (offG area gen) 0 R2 d1).now = _
    have hln : (laysT gen (offG area gen) 0 R2 d1).now = putAt d1.now (offG area gen) ([] ++ (layR gen 0 R2 ++ List.replicate (area - 0 - sumN R2) (List.replicate 128 0))) := hln
    rw [hln, hn1, List.nil_append, Nat.sub_zero, putAt_putAt (by rw [hz128, List.length_append, layR_len, List.length_replicate]; omega) (by rw [hz128]; exact hof)]
  have hcw := (hc2.wrT (gen % 2) (tagB gen 4294967295 []))
  rw [h2, h4] at *
  exact ⟨rfl, hcw, by show (dl.now.set _ _) = _; rw [hX2]⟩
theorem wrT_stops (d : D) (i : Nat) (b : List Nat) : (d.wrT i b).stops = d.stops := by unfold D.wrT; split <;> rfl
theorem flT_stops (d : D) : d.flT.stops = d.stops := by unfold D.flT; split <;> rfl
theorem zeroT_stops (off : Nat) (d : D) : ∀ k, (zeroT off d k).stops = d.stops
  | 0 => rfl
  | k + 1 => (wrT_stops _ _ _).trans (zeroT_stops off d k)
theorem layT_stops (gen off u : Nat) (r : List Nat) (d : D) : ∀ k, (layT gen off u r d k).stops = d.stops
  | 0 => rfl
  | k + 1 => (wrT_stops _ _ _).trans (layT_stops gen off u r d k)
theorem laysT_stops (gen off : Nat) : ∀ (L : List (List Nat)) (u : Nat) (d : D), (laysT gen off u L d).stops = d.stops
  | [], _, _ => rfl
  | r :: rs, u, d => (laysT_stops gen off rs _ _).trans (layT_stops _ _ _ _ _ _)
theorem anewT_stops (gen area : Nat) (L : List (List Nat)) (d : D) : (anewT gen area L d).stops = d.stops := by
  unfold anewT
  rw [flT_stops, wrT_stops, flT_stops, laysT_stops, flT_stops, zeroT_stops]
theorem run_of_stops {d : D} (h : d.stops = false) : d.stopped = false := by unfold D.stopped; rw [h]; rfl
/-- A log on a new device. -/
theorem new_lg {area B : Nat} {L : List (List Nat)} (hB : 2 + 2 * area ≤ B) (hsum : sumN L ≤ area) :
    (anewT 1 area L (newD B)).fly = [] ∧ (anewT 1 area L (newD B)).sure = (anewT 1 area L (newD B)).now ∧ Lg area 1 L (anewT 1 area L (newD B)).now := by
  have hnow : (newD B).now = List.replicate B (List.replicate 128 0) := rfl
  have hlen : 2 + 2 * area ≤ (newD B).now.length := by rw [hnow, List.length_replicate]; exact hB
  obtain ⟨h1, h2, h3⟩ := anew_full (area := area) (gen := 1) (R2 := L) (d := newD B) rfl rfl hlen hsum (run_of_stops (by rw [anewT_stops]; rfl))
  have h0 : (newD B).now[0]? = some (List.replicate 128 0) := by rw [hnow, List.getElem?_replicate, if_pos (by omega)]
  have hlg := LgS.anew (area := area) (gen := 1) (recs := L) (now := (newD B).now) hlen hsum ⟨List.replicate 128 0, h0, by rw [slotG_zero _ _ rfl]; decide⟩
  have hof := offG_le (gen := 1) hlen
  refine ⟨h1, h2, ?_⟩
  rw [h3]
  refine ⟨hlg, List.replicate 128 0, ?_, Oth.of (.inl rfl) (by decide)⟩
  show ((putAt _ _ _).set 1 _)[0]? = _
  rw [List.getElem?_set_ne (by decide), putAt_out (by rw [List.length_append, layR_len, List.length_replicate]; omega) _ (by unfold offG; omega)]
  exact h0
/-- An element of a table: it came in, or is bytes of a block of bytes. -/
def El (W1 w : World) (s : SlB) : Prop := (∀ x ∈ s.l, x < 256) ∧ s.l.length ≤ 990 ∧ (Has W1 s.a (ints .u8 s.l) ∨ RB w 0 s.a s.l)
theorem El.has {W1 w : World} {s : SlB} (h : El W1 w s) (l : Later W1 w) : Has w s.a (ints .u8 s.l) := by
  rcases h.2.2 with h | h
  · exact h.later l
  · exact h.has
theorem El.later {W1 w w' : World} {s : SlB} (h : El W1 w s) (l : Later w w') : El W1 w' s := ⟨h.1, h.2.1, h.2.2.imp id fun h => h.later l⟩
/-- No block of this type is q. -/
def NotQ (w : World) (q : Nat) : Prop := ∀ (b : Nat) (cs : Array Value) (t : TypeId), t ≠ 61 → w.heap[b]? = some (Obj.cells cs t (0, 0)) → b ≠ q
theorem NotQ.blk {w : World} {q : Nat} {xs : Array Value} (h : Blk w q xs 61) : NotQ w q := fun b cs t ht hb e => by
  subst e
  exact typed_no h hb (fun e => ht e.symm)
theorem NotQ.new {w : World} {q : Nat} (h : w.heap.size ≤ q) : NotQ w q := fun b cs t _ hb => by
  have := (Array.getElem?_eq_some_iff.1 hb).1
  omega
theorem El.kl {W1 w w' : World} {s : SlB} {gs gn q : Nat} (h : El W1 w s) (k : KL gs gn q w w') (hq : NotQ w q) : El W1 w' s := by
  refine ⟨h.1, h.2.1, h.2.2.imp id fun h => ?_⟩
  obtain ⟨b, o, cs, h1, h2, h3, h4⟩ := h
  exact ⟨b, o, cs, h1, h2, (k.2.2.2.2.1 b cs _ (hq b cs _ (by decide) h3) (by decide) (by decide) (by decide) h3).trans h3, h4⟩
theorem El.kg {W1 w w' : World} {s : SlB} {gs gn : Nat} (h : El W1 w s) (k : KG gs gn w w') : El W1 w' s := by
  refine ⟨h.1, h.2.1, h.2.2.imp id fun h => ?_⟩
  obtain ⟨b, o, cs, h1, h2, h3, h4⟩ := h
  exact ⟨b, o, cs, h1, h2, (k.2.2.2.2.1 b cs _ (by decide) (by decide) (by decide) h3).trans h3, h4⟩
/-- A table beside a log. -/
def Tab (W1 w : World) (wb : Nat) (A : Option Addr) (n c : Nat) (ss : List SlB) : Prop :=
  n = ss.length ∧ w.ownsRow wb 24 1 (.slice A n c) n (ss.map SlB.v) ∧ (∀ s ∈ ss, El W1 w s) ∧ (A = none → c = 0)
/-- Its row is not one of these. -/
def Off (A : Option Addr) (n c gs gn : Nat) : Prop := ∀ x, (Value.slice A n c).ownBlock = some x → x ≠ gs ∧ x ≠ gn
theorem Tab.later {W1 w w' : World} {wb n c : Nat} {A : Option Addr} {ss : List SlB} (h : Tab W1 w wb A n c ss) (l : Later w w') : Tab W1 w' wb A n c ss := ⟨h.1, own_later h.2.1 l, fun s hs => (h.2.2.1 s hs).later l, h.2.2.2⟩
theorem own_row {w w' : World} {base : Nat} {A : Option Addr} {n c gs gn : Nat} {xs : List Value} (h : w.ownsRow base 24 1 (.slice A n c) n xs) (ho : Off A n c gs gn) (hk : ∀ (b : Nat) (cs : Array Value), b ≠ gs → b ≠ gn → w.heap[b]? = some (Obj.cells cs 24 (0, 0)) → w'.heap[b]? = w.heap[b]?) : w'.ownsRow base 24 1 (.slice A n c) n xs := by
  obtain ⟨h1, h2⟩ := h
  refine ⟨h1, ?_⟩
  rcases h2 with h2 | ⟨g, cap, cur, ha, hb, hg, hrest⟩
  · exact .inl h2
  · have := ho g (by rw [ha]; rfl)
    exact .inr ⟨g, cap, cur, ha, hb, (hk g cur this.1 this.2 hg).trans hg, hrest⟩
theorem Tab.kl {W1 w w' : World} {wb n c gs gn q : Nat} {A : Option Addr} {ss : List SlB} (h : Tab W1 w wb A n c ss) (k : KL gs gn q w w') (hq : NotQ w q) (ho : Off A n c gs gn) : Tab W1 w' wb A n c ss :=
  ⟨h.1, own_row h.2.1 ho fun b cs h1 h2 hb => k.2.2.2.2.2 b cs (hq b cs _ (by decide) hb) h1 h2 hb, fun s hs => (h.2.2.1 s hs).kl k hq, h.2.2.2⟩
theorem Tab.kg {W1 w w' : World} {wb n c gs gn : Nat} {A : Option Addr} {ss : List SlB} (h : Tab W1 w wb A n c ss) (k : KG gs gn w w') (ho : Off A n c gs gn) : Tab W1 w' wb A n c ss :=
  ⟨h.1, own_row h.2.1 ho fun b cs h1 h2 hb => k.2.2.2.2.2 b cs h1 h2 hb, fun s hs => (h.2.2.1 s hs).kg k, h.2.2.2⟩
theorem Tab.off {W1 w : World} {wb n c gs gn : Nat} {A : Option Addr} {ss : List SlB} (h : Tab W1 w wb A n c ss) (h1 : gs < wb) (h2 : gn < wb) : Off A n c gs gn := fun x hx => by
  have := (h.2.1.lt x hx).1
  omega
theorem Tab.off2 {W1 w : World} {wb n c gs gn gn2 : Nat} {A : Option Addr} {ss : List SlB} (h : Tab W1 w wb A n c ss) (h1 : gs < wb) (h2 : gn < wb) (h3 : gn2 = gn ∨ w.heap.size ≤ gn2) : Off A n c gs gn2 := fun x hx => by
  have h4 := h.2.1.lt x hx
  omega
theorem Tab.of {W1 w : World} {wb n c : Nat} {A : Option Addr} {ss : List SlB} (h : TB w wb A n c ss) (hn : n = ss.length) (hs : ∀ s ∈ ss, s.l.length ≤ 990 ∧ ∀ x ∈ s.l, x < 256) : Tab W1 w wb A n c ss :=
  ⟨hn, h.1, fun s hs' => ⟨(hs s hs').2, (hs s hs').1, .inr ((h.2.1 s hs').low (Nat.zero_le _))⟩, h.2.2⟩
theorem Tab.has {W1 w : World} {wb n c : Nat} {A : Option Addr} {ss : List SlB} (h : Tab W1 w wb A n c ss) (l : Later W1 w) : Has w A (ss.map SlB.v) ∧ ∀ s ∈ ss, Has w s.a (ints .u8 s.l) ∧ ∀ x ∈ s.l, x < 256 :=
  ⟨Has.own h.2.1, fun s hs => ⟨(h.2.2.1 s hs).has l, (h.2.2.1 s hs).1⟩⟩
end Go.Proofs.YtfplppldojlanaaDoor
