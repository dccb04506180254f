
import Derived.Test.YtkdpjocglfephaaDoorPlayV
import Derived.Test.YtkdpjocglfephaaDoorBase
import Derived.WalkKit
import Derived.Laws.OwnMore
import Derived.Laws.BytesArg
import Derived.Laws.Rows
import Derived.Deep.AppendLies
import Derived.Deep.Draws
import Derived.Test.YtkdpjocglfephaaDoorChecked
import Derived.Deep.OwnRows
import Derived.Lib.Hide
import Derived.Deep.Quiet
import Derived.Laws.AppendOwnNone
import Derived.Lib.Strings
import Derived.Outline
import Derived.WalkLawsBesides
import Derived.WalkSpells
import Derived.PlainAid
import Derived.Deep.QuietTactic
import Derived.BigQuiet
import Derived.RegionTactic
import Derived.BigRegion
import Derived.Handy
import Derived.Laws.BitsAllLaws
import Derived.Deep.RegionWith
import Derived.Lib.AppendStr
import Derived.Deep.RegionLaw
import Derived.Maps.AppendAt
import Derived.OpenShut
import Derived.WideShapes
import Derived.ChangeArms
import Derived.Deep.Slices
import Derived.Sort.Grow
import Derived.LaidEql
import Derived.Stop.Asserts
import Derived.RowKitTokens
import Derived.Laws.BitsLemmas
import Derived.Laws.Bits64
import Derived.WalkSmall
import Derived.Stop.IfaceNil
import Derived.Lib.Bytealg
import Derived.Deep.SlicePairs
import Derived.OrdersHeld
/- The walk of rabbetplay's Num, of any number; what a world leaves alone but one block. -/


namespace Go.Proofs.YtkdpjocglfephaaDoor
open Go.RowKit
set_option linter.unusedVariables false

theorem Far.below {g : Nat} {w w' w'' : World} (h : Far g w w') (hb : Below w.heap.size w' w'') : Far g w w'' :=
  ⟨h.1, Below.trans h.2.1 (hb.mono (Nat.le_of_lt h.1)), fun j hj hne => (hb.block j hj).trans (h.2.2 j hj hne)⟩
/-- The picks, where they lie, what bytes they are. -/
structure Pks (w : World) (g : Nat) (A : Option Addr) (n c : Nat) (bs : List Nat) : Prop where
  pk : ∃ k, k ≤ n ∧ Pk w g A n c k
  rd : Rd w g A (ints .u8 bs)
theorem Pks.lt {w : World} {g : Nat} {A : Option Addr} {n c : Nat} {bs : List Nat} (h : Pks w g A n c bs) : g < w.heap.size := h.pk.elim fun _ h => h.2.lt
theorem Pks.later {w w' : World} {g : Nat} {A : Option Addr} {n c : Nat} {bs : List Nat} (h : Pks w g A n c bs) (l : Later w w') : Pks w' g A n c bs :=
  ⟨h.pk.elim fun k h => ⟨k, h.1, h.2.later l⟩, Rd.below h.rd (l.below.mono (Nat.le_of_lt h.lt))⟩
theorem Pks.below {w w' : World} {g B : Nat} {A : Option Addr} {n c : Nat} {bs : List Nat} (h : Pks w g A n c bs) (l : Below B w w') (hB : g < B) : Pks w' g A n c bs :=
  ⟨h.pk.elim fun k h => ⟨k, h.1, (l.block g hB).trans h.2⟩, Rd.below h.rd (l.mono (Nat.le_of_lt hB))⟩
theorem Pks.far {w : World} {g : Nat} {A : Option Addr} {n c : Nat} {bs : List Nat} (h : Pks w g A n c bs) {p : Addr} (hp : g < p.block) (v : Value) : Pks (w.setCell p v) g A n c bs :=
  h.below (B := g + 1) ((Below.refl _ _).setCell (show g + 1 ≤ p.block from hp) v) (Nat.lt_succ_self g)
/-- What stays the same of the picks in a walk. -/
structure PkC (n : Nat) (bs : List Nat) : Prop where
  n1000 : n ≤ 1000
  len : bs.length = n
  b256 : ∀ x ∈ bs, x < 256
def NumP (m : Nat) (g : Nat) (A : Option Addr) (n c : Nat) (bs : List Nat) (w : World) (e : Ending) (w' : World) : Prop := ∃ r : Nat, r < m ∧ e = .returned (.int .i64 r) ∧ Pks w' g A n c bs ∧ Far g w w'

set_option maxRecDepth 100000 in
theorem num_any (m : Nat) (g : Nat) (A : Option Addr) (n c : Nat) (bs : List Nat) (w : World) (hm : 1 ≤ m ∧ m ≤ 1000) (hc : PkC n bs) (hp : Pks w g A n c bs) :
    Calls Tryd.prog 22 #[.pointer (some ⟨g, 0, none⟩), .int .i64 m] w (NumP m g A n c bs w) := by
  obtain ⟨k, hk, h⟩ := hp.pk
  have hn := hc.n1000
  have hb := hc.len
  have h256 := hc.b256
  have hr := hp.rd
  have HP := Lib.hid hp
  have c0 := h.cell 0 _ rfl
  have c1 := h.cell 1 _ rfl
  have f1 := h.frozen 1
  by_cases hlt : k < n
  · have h2 := h.set_ 1 (.int .i64 ((k + 1 : Nat) : Int))
    have HH := Lib.hid h
    have HLT := Lib.hid h.lt
    obtain ⟨bb, off, rfl, hbb, hc⟩ := hr.at_ (k := k) (by rw [ints_length]; omega)
    simp only [ints, List.getElem_map] at hc
    have hx := h256 _ (List.getElem_mem (by omega : k < bs.length))
    generalize bs[k] = x at hc hx
    have hne : bb ≠ g := by omega
    have hne2 : g ≠ bb := by omega
    have hm0 : ((m : Int) == 0) = false := by rw [beq_eq_false_iff_ne]; omega
    have hmz : (x : Int) % (m : Int) = ((x % m : Nat) : Int) := by omega
    have hmp : 0 < (m : Int) := by omega
    have hmx : (x : Int).tmod (m : Int) = ((x % m : Nat) : Int) := by rw [Int.tmod_eq_emod_of_nonneg (by omega)]; omega
    have hmd : x % m < m := Nat.mod_lt _ (by omega)
    obtain ⟨y, hy⟩ : ∃ y, x % m = y := ⟨_, rfl⟩
    rw [hy] at hmz hmx hmd
    have hyb : y ≤ 1000 := by omega
    clear h hr h256 hb hy
    go_enter Tryd.func22, Tryd.ntmps22
    go_wp2_with fail
    go_quiet (fail)
    go_wp2_with fail
    obtain ⟨w2, hw2⟩ : ∃ w2, w2 = (w.drewN nq).setCell ⟨g, 1, none⟩ (.int .i64 ((k : Int) + 1)) := ⟨_, rfl⟩
    have B2 : Blk w2 g #[.slice (some ⟨bb, off, none⟩) n c, .int .i64 ((k : Int) + 1)] 76 := by rw [hw2]; exact (Blk.set_ (w := w.drewN nq) HH.out 1 _)
    have F2 : Far g w w2 := by rw [hw2]; exact (Far.of (w := w) (w' := w.drewN nq) HLT.out ((Later.refl w).drewN nq)).trans (Far.set_own (w := w.drewN nq) HLT.out 1 _)
    have hc2 : w2.cell? ⟨bb, off + k, none⟩ = some (.int .u8 (x : Int)) := (Below.cell F2.2.1 hbb).trans hc
    rw [← hw2]
    have e0 : w2.cell? ⟨g, 0, none⟩ = some (.slice (some ⟨bb, off, none⟩) n c) := B2.cell 0 _ rfl
    have e1 : w2.cell? ⟨g, 1, none⟩ = some (.int .i64 ((k : Int) + 1)) := B2.cell 1 _ rfl
    have hkk : (k : Int) + 1 - 1 = (k : Int) := by omega
    have HF2 := Lib.hid F2
    have HB2 := Lib.hid B2
    clear hw2 c0 c1 hc f1 F2 B2
    go_quiet (fail)
    go_wp2_with fail
    go_ret
    refine ⟨y, hmd, by first | (rw [hmz]; rfl) | (rw [hmx]; rfl) | rfl, ⟨⟨k + 1, hlt, ?_⟩, Rd.below HP.out.rd (HF2.out.later ((Later.refl _).drewN _)).2.1⟩, HF2.out.later ((Later.refl _).drewN _)⟩
    unfold Pk
    rw [show ((k + 1 : Nat) : Int) = (k : Int) + 1 by omega]
    exact HB2.out
  · have F := Lib.hid (Far.refl h.lt)
    clear h hr h256 hb
    go_enter Tryd.func22, Tryd.ntmps22
    go_wp2_with fail
    go_quiet (fail)
    go_wp2_with fail
    go_ret
    exact ⟨0, by omega, rfl, HP.out.later ((Later.refl _).drewN _), F.out.later ((Later.refl _).drewN _)⟩
/-- rabbetplay's Value, of the picks so. -/
def ValP (t : Int) (g : Nat) (A : Option Addr) (n c : Nat) (bs : List Nat) (w : World) (e : Ending) (w' : World) : Prop :=
  ∃ (vt i : Int) (s : ByteArray), e = .returned (vagg vt i s) ∧ ((vt = 0 ∧ i = 0 ∧ s = ⟨#[]⟩) ∨ (vt = tyOf t ∧ MayV vt i s.size ∧ In64 i)) ∧ Pks w' g A n c bs ∧ Far g w w' ∧ s.size ≠ 11
theorem valueP (t : Int) (g : Nat) (A : Option Addr) (n c : Nat) (bs : List Nat) (w : World) (hc : PkC n bs) (hp : Pks w g A n c bs) :
    Calls Tryd.prog 25 #[.pointer (some ⟨g, 0, none⟩), .int .i64 t] w (ValP t g A n c bs w) := by
  obtain ⟨k, hk, h⟩ := hp.pk
  refine (value_anyN t g A n c k bs w h hc.n1000 hk hc.len hp.rd hc.b256).mono ?_
  rintro e w' ⟨vt, i, s, k', hk', rfl, hv, ⟨hpk, hf⟩, h11⟩
  exact ⟨vt, i, s, rfl, hv, ⟨⟨k', hk', hpk⟩, Rd.below hp.rd hf.2.1⟩, hf, h11⟩
end Go.Proofs.YtkdpjocglfephaaDoor

/- A region that draws its order: S holds until the last operation z (a store that waits for all others) has come up. -/


namespace Go.Proofs.YtkdpjocglfephaaDoor
open Go
set_option linter.unusedVariables false

section
variable {P : Program} {ops : Array Oper} {Q : Exit → Act → World → Prop} {md : Region.Mode} {S : World → Prop} {z : Nat}

/-- Whatever order is picked from here on; behind every operation but z S holds. -/
def wpAnyZ (P : Program) (md : Region.Mode) (ops : Array Oper) (Q : Exit → Act → World → Prop) (z : Nat) (S : World → Prop) : Nat → Array Bool → Act → World → Prop
  | 0, listed, a, w => Region.ready md ops listed = [] ∧ Q .normal a w
  | fuel + 1, listed, a, w =>
    (Region.ready md ops listed = [] → Q .normal a w) ∧
    ∀ i ∈ Region.ready md ops listed, wpOp P ops Q i (fun a' w' => (i ≠ z → S w') ∧ wpAnyZ P md ops Q z S fuel (listed.setIfInBounds i true) a' w') a w

theorem wpAny_of_Z : ∀ (fuel : Nat) (listed : Array Bool) (a : Act) (w : World), wpAnyZ P md ops Q z S fuel listed a w → wpAny P md ops Q fuel listed a w
  | 0, _, _, _, h => h
  | fuel + 1, _, _, _, h => ⟨h.1, fun i hi => wpOp_mono (fun a' w' h' => wpAny_of_Z fuel _ a' w' h'.2) (h.2 i hi)⟩

theorem wpAnyZ_first {i : Nat} {oi : Oper} {v : Value} (hi : ops[i]? = some oi) (hsel : ∀ (j : Nat) (o : Oper) cs b, ops[j]? = some o → o.op ≠ .select cs b)
    (hQ : ∀ c a w, Q (.panic c) (a.put oi.dst v) w → Q (.panic c) a w) (hz : ∃ oz, ops[z]? = some oz ∧ ∃ e ∈ oz.after, Region.binds md e = true ∧ e.on = i) :
    ∀ (fuel : Nat) (listed : Array Bool) (a : Act) (w : World),
      (∀ j oj, ops[j]? = some oj → j ≠ i → listed.getD j true = false → (∀ e ∈ oj.after, Region.binds md e = true → e.on ≠ i) → oi.apart ops oj = true) →
      i ∈ Region.ready md ops listed → YieldsIf P ops S oi v a → S w →
      wpAnyZ P md ops Q z S fuel (listed.setIfInBounds i true) (a.put oi.dst v) w → wpAnyZ P md ops Q z S (fuel + 1) listed a w := by
  intro fuel
  induction fuel with
  | zero =>
    intro listed a w _ hr hy hS H
    refine ⟨fun h => (by rw [h] at hr; cases hr), fun j hj => ?_⟩
    by_cases hji : j = i
    · subst hji; exact hy.wpOp hi hS ⟨fun _ => hS, H⟩
    · have := ready_mono hj hji
      rw [H.1] at this
      cases this
  | succ fuel ih =>
    intro listed a w hfree hr hy hS H
    refine ⟨fun h => (by rw [h] at hr; cases hr), fun j hj => ?_⟩
    by_cases hji : j = i
    · subst hji; exact hy.wpOp hi hS ⟨fun _ => hS, H⟩
    · have h1 := H.2 j (ready_mono hj hji)
      obtain ⟨hjun, oj, hoj, hall⟩ := mem_ready.1 hj
      have hnot : ∀ e ∈ oj.after, Region.binds md e = true → e.on ≠ i := fun e he hb heq => by
        have h1 := hall e he hb
        have h0 := (mem_ready.1 hr).1
        rw [heq] at h1
        rcases Nat.lt_or_ge i listed.size with h' | h'
        · simp [h'] at h0 h1; rw [h0] at h1; cases h1
        · simp [Array.getElem?_eq_none h'] at h1
      have hjz : j ≠ z := by
        rintro rfl
        obtain ⟨oz, hoz, e, he, hb, heq⟩ := hz
        rw [hoj] at hoz
        injection hoz with hoz
        subst hoz
        exact hnot e he hb heq
      have h2 := wpOp_putIf hoj (hfree j oj hoj hji hjun hnot) (fun cs b => hsel i oi cs b hi) (fun cs b => hsel j oj cs b hoj) hQ hy h1
      have hfree' : ∀ k ok, ops[k]? = some ok → k ≠ i → (listed.setIfInBounds j true).getD k true = false →
          (∀ e ∈ ok.after, Region.binds md e = true → e.on ≠ i) → oi.apart ops ok = true := fun k ok hk hki hun hno => by
        refine hfree k ok hk hki ?_ hno
        by_cases hjk : j = k
        · subst hjk; exact hjun
        · rw [getD_set_ne true hjk] at hun; exact hun
      refine wpOp_mono (fun a' w' h3 => ⟨fun h => h3.2.1 h, ih (listed.setIfInBounds j true) a' w' hfree' (ready_mono hr (Ne.symm hji)) h3.1 (h3.2.1 hjz) ?_⟩) h2
      rw [Array.setIfInBounds_comm _ _ hji]
      exact h3.2.2

/-- Does z wait for i? -/
def waitsFor (md : Region.Mode) (ops : Array Oper) (z i : Nat) : Bool := match ops[z]? with | some o => o.after.toList.any fun e => Region.binds md e && e.on == i | none => false
theorem waitsFor_spec {i : Nat} (h : waitsFor md ops z i = true) : ∃ oz, ops[z]? = some oz ∧ ∃ e ∈ oz.after, Region.binds md e = true ∧ e.on = i := by
  unfold waitsFor at h
  split at h
  · rename_i o ho
    simp only [List.any_eq_true, Bool.and_eq_true, beq_iff_eq] at h
    obtain ⟨e, he, hb, heq⟩ := h
    exact ⟨o, ho, e, by simpa using he, hb, heq⟩
  · cases h
/-- Take number i first. -/
theorem wpAnyZ_take {i : Nat} {oi : Oper} {v : Value} {fuel : Nat} {listed : Array Bool} {a : Act} {w : World} (hi : ops[i]? = some oi)
    (hs : Region.noSelect ops = true) (hf : Region.free md ops listed i = true) (hr : (Region.ready md ops listed).contains i = true) (hz : waitsFor md ops z i = true)
    (hQ : ∀ c a w, Q (.panic c) (a.put oi.dst v) w → Q (.panic c) a w) (hy : YieldsIf P ops S oi v a) (hS : S w)
    (h : wpAnyZ P md ops Q z S fuel (listed.setIfInBounds i true) (a.put oi.dst v) w) : wpAnyZ P md ops Q z S (fuel + 1) listed a w :=
  wpAnyZ_first hi (Region.noSelect_spec hs) hQ (waitsFor_spec hz) fuel listed a w (Region.free_spec hi hf) (by simpa using hr) hy hS h
theorem wpAnyZ_all {rs : List Nat} {fuel : Nat} {listed : Array Bool} {a : Act} {w : World} (hr : Region.ready md ops listed = rs) (hne : rs ≠ [])
    (h : ∀ i ∈ rs, wpOp P ops Q i (fun a' w' => (i ≠ z → S w') ∧ wpAnyZ P md ops Q z S fuel (listed.setIfInBounds i true) a' w') a w) : wpAnyZ P md ops Q z S (fuel + 1) listed a w :=
  ⟨fun h0 => absurd (hr ▸ h0) hne, hr ▸ h⟩
theorem wpAnyZ_done {listed : Array Bool} {a : Act} {w : World} (hr : Region.ready md ops listed = []) (h : Q .normal a w) :
    ∀ fuel, wpAnyZ P md ops Q z S fuel listed a w
  | 0 => ⟨hr, h⟩
  | _ + 1 => ⟨fun _ => h, by rw [hr]; simp⟩
theorem wp_region_Z (z : Nat) {id : Nat} {a : Act} {w : World} (hm : P.follows .mixedOrders = true)
    (h : wpAnyZ P .any ops Q z S ops.size (Array.replicate ops.size false) a w.drew) : (Code.region id ops true).wp P Q a w :=
  wp_region_any hm (wpAny_of_Z _ _ _ _ h)
/-- One of those that may come up: not the last one; the last one. -/
theorem stepZ {fuel : Nat} {listed : Array Bool} {a : Act} {w : World} {i : Nat} {o : Oper} (ho : ops[i]? = some o)
    (h : ∀ K' : Act → World → Prop, (∀ a w, S w → wpAnyZ P md ops Q z S fuel (listed.setIfInBounds i true) a w → K' a w) → if Region.wanted o (yielded ops a.tmps) = true then Oper.wp P o a w K' Q else K' (a.put o.dst undef) w) :
    wpOp P ops Q i (fun a' w' => (i ≠ z → S w') ∧ wpAnyZ P md ops Q z S fuel (listed.setIfInBounds i true) a' w') a w :=
  wpOp_step ho fun K' hK => h K' fun a w hS hW => hK a w ⟨fun _ => hS, hW⟩
theorem stepZl {fuel : Nat} {listed : Array Bool} {a : Act} {w : World} {o : Oper} (ho : ops[z]? = some o)
    (h : ∀ K' : Act → World → Prop, (∀ a w, wpAnyZ P md ops Q z S fuel (listed.setIfInBounds z true) a w → K' a w) → if Region.wanted o (yielded ops a.tmps) = true then Oper.wp P o a w K' Q else K' (a.put o.dst undef) w) :
    wpOp P ops Q z (fun a' w' => (z ≠ z → S w') ∧ wpAnyZ P md ops Q z S fuel (listed.setIfInBounds z true) a' w') a w :=
  wpOp_step ho fun K' hK => h K' fun a w hW => hK a w ⟨fun h => absurd rfl h, hW⟩
end

open Go.RowKit
/-- append at a step of a region, what it leaves alone told whole. -/
theorem step_append_x {P : Program} {w : World} {ops : Array Oper} {o : Oper} {a : Act} {K : Act → World → Prop} {Q : Exit → Act → World → Prop} {E : Prop} (hgd : o.guard = none) (s x : Operand) (t : TypeId)
    (ho : o.op = .call { callee := .builtin .append, args := #[s, x], argTypes := #[t, t] })
    (base : Nat) (e : TypeId) (z : Value) (size bytes : Nat) (ht : P.underlying t = some (.slice e)) (hinfo : (P.info? e).map (fun i => (i.zero, i.size, i.bytes)) = some (some z, size, bytes)) (hzs : z.cells.size = size) (hsz0 : 0 < size)
    (v : Value) (n : Nat) (xs : List Value) (hs : a.eval s = v) (hown : w.ownsRow base e size v n xs)
    (b off m c : Nat) (news : List Value) (hx : a.eval x = .slice (some ⟨b, off, none⟩) m c) (hr : Has w (some ⟨b, off, none⟩) news) (hm : news.length = m * size) (h1 : ∀ u ∈ news, u.oneCell' = true)
    (h63 : n + m ≤ maxLen) (hbytes : (n + m) * bytes ≤ 140737488355328) (hbase : base ≤ w.heap.size)
    (h : ∀ A' c' w', w'.ownsRow base e size (.slice A' (n + m) c') (n + m) (xs ++ news) → w.grownBy w' v.ownBlock → Below base w w' → ((Value.slice A' (n + m) c').ownBlock = v.ownBlock ∨ (Value.slice A' (n + m) c').ownBlock = some w.heap.size) → (A' = none → c' = 0) → K (a.put o.dst (.slice A' (n + m) c')) w') :
    if Region.wanted o (yielded ops a.tmps) = true then Oper.wp P o a w K Q else E := by
  have hw : Region.wanted o (yielded ops a.tmps) = true := by simp [Region.wanted, hgd]
  rw [if_pos hw]
  obtain ⟨i, hi, hz, hsz, hby⟩ := info_parts hinfo
  have hcells : ∀ j u, news[j]? = some u → w.cell? ((⟨b, off, none⟩ : Addr).add j) = some u := by
    intro j u hu
    rcases hr with h | ⟨b', off', h, _, hc⟩
    · subst h; simp at hu
    · injection h with h
      injection h with h1 h2
      subst h1 h2
      rw [add_plain]
      exact hc j u hu
  obtain ⟨v', w', hrun, h2, h3, _, hat⟩ := run_append_own_at (P := P) w base t o.type e i z size bytes ht hi hz hsz hby hzs hsz0 v n xs hown ⟨b, off, none⟩ m c news hm hcells h1 h63 hbytes hbase
  obtain ⟨A', c', hv, hc'⟩ := ownG_shape h2
  subst hv
  unfold Oper.wp execOp
  simp only [ho, resolve, invoke, builtin, Sem.run_bind, Sem.run_pure, Result.andThen_ok, List.map_toArray, List.map_cons, List.map_nil, hs, hx, hrun]
  exact h A' c' w' h2 h3 ((Below.refl _ _).grown h3 hbase fun k hk => (hown.lt k hk).1) hat hc'
end Go.Proofs.YtkdpjocglfephaaDoor
