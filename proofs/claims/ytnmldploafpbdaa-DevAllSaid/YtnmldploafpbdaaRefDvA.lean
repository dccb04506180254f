/- The document's device: how it stands in memory; NewDev, Stopped, Stop, Read. -/
import Derived.Test.YtnmldploafpbdaaDevE
import Derived.Test.YtnmldploafpbdaaConv
namespace Go.Proofs.Ytnmldploafpbdaa
open Go.RowKit
set_option linter.unusedVariables false

def strsV (L : List (List Nat)) : List Value := L.map fun l => .string (bstr l)
def pendV (F : List (Nat × List Nat)) : List Value := F.flatMap fun x => [.int .i64 (x.1 : Int), .string (bstr x.2)]
theorem strsV_len (L : List (List Nat)) : (strsV L).length = L.length := List.length_map _
theorem strsV_get (L : List (List Nat)) (i : Nat) (hi : i < L.length) : (strsV L)[i]? = some (.string (bstr L[i])) := by
  unfold strsV; rw [List.getElem?_map, List.getElem?_eq_getElem hi]; rfl
theorem strsV_set (L : List (List Nat)) (i : Nat) (l : List Nat) : (strsV L).set i (.string (bstr l)) = strsV (L.set i l) := by
  unfold strsV; rw [List.map_set]
theorem strsV_one (L : List (List Nat)) : ∀ u ∈ strsV L, u.oneCell' = true := by
  intro u hu
  obtain ⟨l, _, rfl⟩ := List.mem_map.1 hu
  rfl
theorem pendV_len (F : List (Nat × List Nat)) : (pendV F).length = F.length * 2 := by
  unfold pendV
  induction F with
  | nil => rfl
  | cons x t ih => rw [List.flatMap_cons, List.length_append, ih, List.length_cons]; simp; omega
theorem pendV_snoc (F : List (Nat × List Nat)) (x : Nat × List Nat) : pendV (F ++ [x]) = pendV F ++ [.int .i64 (x.1 : Int), .string (bstr x.2)] := by
  unfold pendV; rw [List.flatMap_append]; rfl
theorem pendV_get (F : List (Nat × List Nat)) (i : Nat) (hi : i < F.length) : (pendV F)[i * 2]? = some (.int .i64 (F[i].1 : Int)) ∧ (pendV F)[i * 2 + 1]? = some (.string (bstr F[i].2)) := by
  induction F generalizing i with
  | nil => exact absurd hi (Nat.not_lt_zero _)
  | cons x t ih =>
    have hx : pendV (x :: t) = .int .i64 (x.1 : Int) :: .string (bstr x.2) :: pendV t := rfl
    rw [hx]
    cases i with
    | zero => exact ⟨rfl, rfl⟩
    | succ i =>
      have h := ih i (by simpa using hi)
      rw [show (i + 1) * 2 = i * 2 + 1 + 1 by omega]
      exact h
/-- How many writes are left, as the document's device counts them. -/
def leftR (d : D) : Int := if d.stops then d.left else -1
/-- The document's device in memory, its own cells apart. -/
def RR (w : World) (base p gs gn B cs cn : Nat) (A : Option Addr) (nf cf : Nat) (sure now : List (List Nat)) (fly : List (Nat × List Nat)) (x : Array Value) : Prop :=
  Blk w p x 46 ∧ w.ownsRow base 9 1 (.slice (some ⟨gs, 0, none⟩) B cs) B (strsV sure) ∧ w.ownsRow base 9 1 (.slice (some ⟨gn, 0, none⟩) B cn) B (strsV now) ∧
  (w.ownsRow base 63 2 (.slice A nf cf) nf (pendV fly) ∧ (A = none → cf = 0)) ∧ gs ≠ gn ∧ base ≤ p
/-- The document's device in memory. -/
def RA (w : World) (base p gs gn B cs cn : Nat) (A : Option Addr) (cf : Nat) (d : D) : Prop :=
  RR w base p gs gn B cs cn A d.fly.length cf d.sure d.now d.fly #[.slice (some ⟨gs, 0, none⟩) B cs, .slice (some ⟨gn, 0, none⟩) B cn, .slice A d.fly.length cf, .int .i64 d.writes, .int .i64 (leftR d)]
theorem RA.of {w : World} {base p gs gn B cs cn nf cf : Nat} {A : Option Addr} {d : D} {x : Array Value} (h : RR w base p gs gn B cs cn A nf cf d.sure d.now d.fly x) (hn : d.fly.length = nf) (hx : x = #[.slice (some ⟨gs, 0, none⟩) B cs, .slice (some ⟨gn, 0, none⟩) B cn, .slice A nf cf, .int .i64 d.writes, .int .i64 (leftR d)]) : RA w base p gs gn B cs cn A cf d := by
  subst hn hx; exact h
/-- What its deeds leave of all else. -/
def KR (w w' : World) : Prop := w'.os = w.os ∧ w'.tape = w.tape ∧ w'.output = w.output ∧ w.heap.size ≤ w'.heap.size ∧ ∀ (b : Nat) (cs : Array Value) (t : TypeId), t ≠ 9 → t ≠ 63 → t ≠ 46 → w.heap[b]? = some (Obj.cells cs t (0, 0)) → w'.heap[b]? = w.heap[b]?
theorem KR.refl (w : World) : KR w w := ⟨rfl, rfl, rfl, Nat.le_refl _, fun _ _ _ _ _ _ _ => rfl⟩
theorem KR.trans {a b c : World} (h : KR a b) (k : KR b c) : KR a c :=
  ⟨k.1.trans h.1, k.2.1.trans h.2.1, k.2.2.1.trans h.2.2.1, Nat.le_trans h.2.2.2.1 k.2.2.2.1, fun x cs t h1 h2 h3 hx => (k.2.2.2.2 x cs t h1 h2 h3 ((h.2.2.2.2 x cs t h1 h2 h3 hx).trans hx)).trans (h.2.2.2.2 x cs t h1 h2 h3 hx)⟩
theorem KR.later {w w' : World} (h : Later w w') : KR w w' := ⟨h.os, h.tape, h.output, h.size, fun b cs t _ _ _ hb => Below.block h b (Array.getElem?_eq_some_iff.1 hb).1⟩
theorem KR.only {w w' : World} {row : Option Nat} (hg : w.grownBy w' row) (hr : ∀ x, row = some x → ∃ (cs : Array Value) (t : TypeId), w.heap[x]? = some (Obj.cells cs t (0, 0)) ∧ (t = 9 ∨ t = 63 ∨ t = 46)) : KR w w' :=
  ⟨hg.os, hg.tape, hg.output, hg.size, fun b cs t h1 h2 h3 hb => hg.block b (Array.getElem?_eq_some_iff.1 hb).1 (by
    intro e
    obtain ⟨cs', t', h4, h5⟩ := hr b e.symm
    refine typed_ne h4 hb ?_ rfl
    rcases h5 with h5 | h5 | h5 <;> rw [h5] <;> intro e2 <;> first | exact h1 e2.symm | exact h2 e2.symm | exact h3 e2.symm)⟩
theorem own_typed {w w' : World} {base : Nat} {e : TypeId} {k n : Nat} {v : Value} {xs : List Value} (h : w.ownsRow base e k v n xs) (hk : ∀ (b : Nat) (cs : Array Value), w.heap[b]? = some (Obj.cells cs e (0, 0)) → w'.heap[b]? = w.heap[b]?) : w'.ownsRow base e k v n xs := by
  obtain ⟨h1, h2⟩ := h
  refine ⟨h1, ?_⟩
  rcases h2 with h2 | ⟨g, cap, cur, ha, hb, hg, hrest⟩
  · exact .inl h2
  · exact .inr ⟨g, cap, cur, ha, hb, (hk g _ hg).trans hg, hrest⟩
section
variable {w w' : World} {base p gs gn B cs cn nf cf : Nat} {A : Option Addr} {sure now : List (List Nat)} {fly : List (Nat × List Nat)} {x : Array Value} {d : D}
theorem RR.later (h : RR w base p gs gn B cs cn A nf cf sure now fly x) (k : Later w w') : RR w' base p gs gn B cs cn A nf cf sure now fly x :=
  ⟨h.1.later k, own_later h.2.1 k, own_later h.2.2.1 k, ⟨own_later h.2.2.2.1.1 k, h.2.2.2.1.2⟩, h.2.2.2.2⟩
theorem RR.kd (h : RR w base p gs gn B cs cn A nf cf sure now fly x) (k : KD w w') : RR w' base p gs gn B cs cn A nf cf sure now fly x :=
  ⟨(k.2.2.2.2 p _ _ (by decide) (by decide) (by decide) h.1).trans h.1, own_typed h.2.1 (fun b c hb => k.2.2.2.2 b c _ (by decide) (by decide) (by decide) hb), own_typed h.2.2.1 (fun b c hb => k.2.2.2.2 b c _ (by decide) (by decide) (by decide) hb), ⟨own_typed h.2.2.2.1.1 (fun b c hb => k.2.2.2.2 b c _ (by decide) (by decide) (by decide) hb), h.2.2.2.1.2⟩, h.2.2.2.2⟩
theorem DA.kr (h : DA w base p gs gn B cs cn A cf d) (k : KR w w') : DA w' base p gs gn B cs cn A cf d := by
  obtain ⟨h1, ⟨s1, vs, s2, s3⟩, ⟨n1, ns, n2, n3⟩, ⟨f1, f0, fs, f2, f3⟩, h5, h6⟩ := h
  have kb : ∀ {v l}, BV w v l → BV w' v l := fun hv => hv.keep fun b c hb => k.2.2.2.2 b c _ (by decide) (by decide) (by decide) hb
  exact ⟨(k.2.2.2.2 p _ _ (by decide) (by decide) (by decide) h1).trans h1, ⟨s1, vs, own_typed s2 (fun b c hb => k.2.2.2.2 b c _ (by decide) (by decide) (by decide) hb), fun i hi => by obtain ⟨v, a, b⟩ := s3 i hi; exact ⟨v, a, kb b⟩⟩, ⟨n1, ns, own_typed n2 (fun b c hb => k.2.2.2.2 b c _ (by decide) (by decide) (by decide) hb), fun i hi => by obtain ⟨v, a, b⟩ := n3 i hi; exact ⟨v, a, kb b⟩⟩, ⟨f1, f0, fs, own_typed f2 (fun b c hb => k.2.2.2.2 b c _ (by decide) (by decide) (by decide) hb), fun i hi => by obtain ⟨c, v, a, b⟩ := f3 i hi; exact ⟨c, v, a, kb b⟩⟩, h5, h6⟩
theorem RR.slen (h : RR w base p gs gn B cs cn A nf cf sure now fly x) : sure.length = B ∧ now.length = B ∧ fly.length = nf := by
  have h1 := h.2.1.1
  have h2 := h.2.2.1.1
  have h3 := h.2.2.2.1.1.1
  rw [strsV_len] at h1 h2
  rw [pendV_len] at h3
  omega
theorem RR.gb (h : RR w base p gs gn B cs cn A nf cf sure now fly x) : base ≤ gs ∧ base ≤ gn ∧ gs < w.heap.size ∧ gn < w.heap.size ∧ (∃ c, w.heap[gs]? = some (Obj.cells c 9 (0, 0))) ∧ (∃ c, w.heap[gn]? = some (Obj.cells c 9 (0, 0))) :=
  ⟨(h.2.1.lt gs rfl).1, (h.2.2.1.lt gn rfl).1, (h.2.1.lt gs rfl).2, (h.2.2.1.lt gn rfl).2, devown_blk h.2.1, devown_blk h.2.2.1⟩
/-- A cell of the device itself is stored. -/
theorem RR.setp (h : RR w base p gs gn B cs cn A nf cf sure now fly x) (k : Nat) (v : Value) : RR (w.setCell ⟨p, k, none⟩ v) base p gs gn B cs cn A nf cf sure now fly (x.setIfInBounds k v) := by
  have hg : w.grownBy (w.setCell ⟨p, k, none⟩ v) (some p) := only_setCell (World.grownBy.refl _ _) (.inl rfl) v
  obtain ⟨_, _, _, _, ⟨c1, k1⟩, ⟨c2, k2⟩⟩ := h.gb
  refine ⟨h.1.set_ k v, devown_row h.2.1 hg (fun y hy e => ?_), devown_row h.2.2.1 hg (fun y hy e => ?_), ⟨devown_row h.2.2.2.1.1 hg (fun y hy e => ?_), h.2.2.2.1.2⟩, h.2.2.2.2⟩
  · injection hy with hy; injection e with e; subst hy; exact typed_ne k1 h.1 (by decide) e
  · injection hy with hy; injection e with e; subst hy; exact typed_ne k2 h.1 (by decide) e
  · injection e with e; obtain ⟨c, hc⟩ := devblk_v h.2.2.2.1.1 y hy; exact typed_ne hc h.1 (by decide) e
theorem KR.setp (h : RR w base p gs gn B cs cn A nf cf sure now fly x) (hb : base ≤ w.heap.size) (k : Nat) (v : Value) : KR w (w.setCell ⟨p, k, none⟩ v) ∧ Below base w (w.setCell ⟨p, k, none⟩ v) :=
  ⟨KR.only (row := some p) (only_setCell (World.grownBy.refl _ _) (.inl rfl) v) (fun x hx => by injection hx with hx; subst hx; exact ⟨_, _, h.1, .inr (.inr rfl)⟩),
    (Below.refl _ _).grown (row := some p) (only_setCell (World.grownBy.refl _ _) (.inl rfl) v) hb fun k hk => by injection hk with hk; subst hk; exact h.2.2.2.2.2⟩
/-- A block of those seen is laid. -/
theorem RR.putn (h : RR w base p gs gn B cs cn A nf cf sure now fly x) (i : Nat) (l : List Nat) : RR (w.setCell ⟨gn, i, none⟩ (.string (bstr l))) base p gs gn B cs cn A nf cf sure (now.set i l) fly x := by
  have hg : w.grownBy (w.setCell ⟨gn, i, none⟩ (.string (bstr l))) (some gn) := only_setCell (World.grownBy.refl _ _) (.inl rfl) _
  obtain ⟨_, _, _, _, _, ⟨c2, k2⟩⟩ := h.gb
  refine ⟨h.1.far (typed_ne h.1 k2 (by decide)) _, devown_row h.2.1 hg (fun y hy e => ?_), ?_, ⟨devown_row h.2.2.2.1.1 hg (fun y hy e => ?_), h.2.2.2.1.2⟩, h.2.2.2.2⟩
  · injection hy with hy; injection e with e; subst hy; exact h.2.2.2.2.1 e
  · have h3 := (h.2.2.1.stored i (.string (bstr l))).1
    rw [strsV_set] at h3
    exact h3
  · injection e with e; obtain ⟨c, hc⟩ := devblk_v h.2.2.2.1.1 y hy; exact typed_ne hc k2 (by decide) e
/-- A block of the sure ones is laid. -/
theorem RR.puts (h : RR w base p gs gn B cs cn A nf cf sure now fly x) (i : Nat) (l : List Nat) : RR (w.setCell ⟨gs, i, none⟩ (.string (bstr l))) base p gs gn B cs cn A nf cf (sure.set i l) now fly x := by
  have hg : w.grownBy (w.setCell ⟨gs, i, none⟩ (.string (bstr l))) (some gs) := only_setCell (World.grownBy.refl _ _) (.inl rfl) _
  obtain ⟨_, _, _, _, ⟨c2, k2⟩, _⟩ := h.gb
  refine ⟨h.1.far (typed_ne h.1 k2 (by decide)) _, ?_, devown_row h.2.2.1 hg (fun y hy e => ?_), ⟨devown_row h.2.2.2.1.1 hg (fun y hy e => ?_), h.2.2.2.1.2⟩, h.2.2.2.2⟩
  · have h3 := (h.2.1.stored i (.string (bstr l))).1
    rw [strsV_set] at h3
    exact h3
  · injection hy with hy; injection e with e; subst hy; exact h.2.2.2.2.1 e.symm
  · injection e with e; obtain ⟨c, hc⟩ := devblk_v h.2.2.2.1.1 y hy; exact typed_ne hc k2 (by decide) e
theorem KR.cell_ {g n c : Nat} {xs : List Value} (h : w.ownsRow base 9 1 (.slice (some ⟨g, 0, none⟩) n c) n xs) (hb : base ≤ w.heap.size) (k : Nat) (v : Value) : KR w (w.setCell ⟨g, k, none⟩ v) ∧ Below base w (w.setCell ⟨g, k, none⟩ v) := by
  have h1 := (h.lt g rfl).1
  obtain ⟨c2, k2⟩ := devown_blk h
  exact ⟨KR.only (row := some g) (only_setCell (World.grownBy.refl _ _) (.inl rfl) v) (fun x hx => by injection hx with hx; subst hx; exact ⟨_, _, k2, .inl rfl⟩),
    (Below.refl _ _).grown (row := some g) (only_setCell (World.grownBy.refl _ _) (.inl rfl) v) hb fun k hk => by injection hk with hk; omega⟩
theorem RR.nil_ (h : RR w base p gs gn B cs cn A nf cf sure now fly x) : RR w base p gs gn B cs cn none 0 0 sure now [] x :=
  ⟨h.1, h.2.1, h.2.2.1, ⟨ownG_nil _ _ _ _, fun _ => rfl⟩, h.2.2.2.2⟩
end
/-- A deed is done: the document's device is d behind it. -/
def DoneR (base p B : Nat) (d : D) (w w' : World) : Prop := (∃ gs gn cs cn A cf, RA w' base p gs gn B cs cn A cf d) ∧ KR w w' ∧ Below base w w'

set_option maxRecDepth 100000 in
theorem refStopped_any (p : Nat) (n : Int) (w : World) (h : w.cell? ⟨p, 4, none⟩ = some (.int .i64 n)) :
    Calls Try.prog 27 #[dptr p] w fun e w' => e = .returned (.bool (n == 0)) ∧ w' = w := by
  go_enter Try.func27, Try.ntmps27
  go_wp2_with fail
  go_ret
  exact ⟨rfl, rfl⟩
set_option maxRecDepth 100000 in
set_option maxHeartbeats 1000000 in
theorem refStop_any (base p gs gn B cs cn : Nat) (A : Option Addr) (cf : Nat) (d : D) (n : Int) (w : World) (h : RA w base p gs gn B cs cn A cf d) (hbase : base ≤ w.heap.size) :
    Calls Try.prog 14 #[dptr p, .int .i64 n] w fun e w' => e = .returned (.tuple #[]) ∧ DoneR base p B (d.st n) w w' := by
  have HR := Lib.hid (show RR w base p gs gn B cs cn A d.fly.length cf d.sure d.now d.fly _ from h)
  have k4 : w.cell? ⟨p, 4, none⟩ = some (.int .i64 (leftR d)) := h.1.cell 4 _ rfl
  have f4 := h.1.frozen 4
  have HB := Lib.hid hbase
  clear h hbase
  go_enter Try.func14, Try.ntmps14
  go_wp2_with fail
  all_goals
    first
    | (have hl : n = leftR (d.st n) := by
         unfold leftR D.st
         by_cases h0 : 0 ≤ n
         · simp [h0]
         · simp [h0]; omega
       have K5 := KR.setp HR.out HB.out 4 (.int .i64 n)
       have D5 := HR.out.setp 4 (.int .i64 n)
       go_end0
       exact ⟨rfl, ⟨_, _, _, _, _, _, RA.of (d := d.st n) (nf := d.fly.length) D5 rfl (by rw [← hl]; rfl)⟩, K5.1, K5.2⟩)
    | (have hl : -1 = leftR (d.st n) := by
         unfold leftR D.st
         by_cases h0 : 0 ≤ n
         · simp [h0]; omega
         · simp [h0]
       have K5 := KR.setp HR.out HB.out 4 (.int .i64 (-1))
       have D5 := HR.out.setp 4 (.int .i64 (-1))
       go_end0
       exact ⟨rfl, ⟨_, _, _, _, _, _, RA.of (d := d.st n) (nf := d.fly.length) D5 rfl (by rw [← hl]; rfl)⟩, K5.1, K5.2⟩)
set_option maxRecDepth 100000 in
theorem refRead_no (p gn B cn : Nat) (i : Int) (w : World) (h : w.cell? ⟨p, 1, none⟩ = some (.slice (some ⟨gn, 0, none⟩) B cn)) (ho : ¬ (0 ≤ i ∧ i < B)) :
    Calls Try.prog 24 #[dptr p, .int .i64 i] w fun e w' => e = .returned (.tuple #[nilv, .bool false]) ∧ w' = w := by
  by_cases h1 : i < 0
  · have d1 : decide (i < 0) = true := by simp; omega
    go_enter Try.func24, Try.ntmps24
    go_wp2_with fail
    exact bodyPost_ret (v := .tuple #[nilv, .bool false]) (by simp [results, Try.results24, go_sem]) rfl ⟨rfl, rfl⟩
  · have d1 : decide (i < 0) = false := by simp; omega
    have d2 : decide ((B : Int) ≤ i) = true := by simp; omega
    go_enter Try.func24, Try.ntmps24
    go_wp2_with fail
    exact bodyPost_ret (v := .tuple #[nilv, .bool false]) (by simp [results, Try.results24, go_sem]) rfl ⟨rfl, rfl⟩
/-- What the document's Read tells. -/
def ReadR (l : List Nat) (w : World) (e : Ending) (w' : World) : Prop := ∃ g c, e = .returned (.tuple #[.slice (some ⟨g, 0, none⟩) l.length c, .bool true]) ∧ Has w' (some ⟨g, 0, none⟩) (ints .u8 l) ∧ Later w w'
set_option maxRecDepth 100000 in
set_option maxHeartbeats 1000000 in
theorem refRead_any (p gn B cn : Nat) (base : Nat) (now : List (List Nat)) (i : Nat) (w : World) (h : w.cell? ⟨p, 1, none⟩ = some (.slice (some ⟨gn, 0, none⟩) B cn)) (ho : w.ownsRow base 9 1 (.slice (some ⟨gn, 0, none⟩) B cn) B (strsV now)) (hi : i < B) (hB : B ≤ 4000) (hl : now.length = B) (h256 : ∀ x ∈ now[i], x < 256) :
    Calls Try.prog 24 #[dptr p, .int .i64 i] w (ReadR now[i] w) := by
  obtain ⟨l, hll⟩ : ∃ l, l = now[i] := ⟨_, rfl⟩
  have hc : w.cell? ⟨gn, i, none⟩ = some (.string (bstr l)) := by rw [ho.cellAt i (by omega), strsV_get now i (by omega), hll]
  rw [← hll] at h256 ⊢
  obtain ⟨w2, c2, hconv, hrd, hbl⟩ := conv_bytes l h256 w
  have HRD := Lib.hid (Has.of hrd (Nat.le_refl _))
  have HBL := Lib.hid (Later.of hbl)
  have hcap := own_cap ho
  clear hll ho hl h256 hrd hbl
  go_enter Try.func24, Try.ntmps24
  go_wp2_with fail
  exact bodyPost_ret (v := .tuple #[.slice (some ⟨w.heap.size, 0, none⟩) l.length c2, .bool true]) (by simp [results, Try.results24, go_sem]) rfl ⟨_, _, rfl, HRD.out, HBL.out⟩
end Go.Proofs.Ytnmldploafpbdaa
