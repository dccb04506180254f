/- A region that draws its order: a family of operations that each make something of their own may come up in any order: told once. -/
import Derived.Test.YtklohbglkbhjhaaDoorKripke
namespace Go.Proofs.YtklohbglkbhjhaaDoor
open Go
set_option linter.unusedVariables false

section
variable {P : Program} {ops : Array Oper} {Q : Exit → Act → World → Prop} {md : Region.Mode} {S : World → Prop} {R : World → World → Prop}

/-- In whatever world that meets S operation o makes something: ψ tells what it yields. -/
def MakesX (P : Program) (ops : Array Oper) (S : World → Prop) (R : World → World → Prop) (o : Oper) (ψ : Value → World → Prop) (a : Act) : Prop :=
  Region.wanted o (yielded ops a.tmps) = true ∧ ∀ w, S w → ∃ v w', (execOp a.eval o).run P w = .ok (.value v) w' ∧ R w w' ∧ ψ v w'
theorem MakesX.of_same {o : Oper} {ψ : Value → World → Prop} {a a' : Act} (hy : MakesX P ops S R o ψ a) (he : execOp a'.eval o = execOp a.eval o)
    (hw : Region.wanted o (yielded ops a'.tmps) = Region.wanted o (yielded ops a.tmps)) : MakesX P ops S R o ψ a' := by
  unfold MakesX at *
  rw [he, hw]
  exact hy
def dstOf (ops : Array Oper) (i : Nat) : Option Tmp := (ops[i]?).bind (·.dst)
def putAll (ops : Array Oper) (I : List Nat) (vs : Nat → Value) (a : Act) : Act := I.foldl (fun a i => a.put (dstOf ops i) (vs i)) a
def setAll (I : List Nat) (listed : Array Bool) : Array Bool := I.foldl (fun l i => l.setIfInBounds i true) listed
theorem putAll_congr {vs us : Nat → Value} : ∀ (I : List Nat) (a : Act), (∀ i ∈ I, vs i = us i) → putAll ops I vs a = putAll ops I us a
  | [], _, _ => rfl
  | i :: r, a, h => by
    show putAll ops r vs (a.put _ (vs i)) = putAll ops r us (a.put _ (us i))
    rw [h i (List.mem_cons_self ..)]
    exact putAll_congr r _ fun j hj => h j (List.mem_cons_of_mem _ hj)
theorem getD_false_of {listed : Array Bool} {i : Nat} (h : listed.getD i true = false) : listed.getD i false = false ∧ i < listed.size := by
  rcases Nat.lt_or_ge i listed.size with h' | h'
  · simp [h'] at h ⊢; exact h
  · simp [Array.getElem?_eq_none h'] at h

theorem fam_aux (hrf : ∀ w, R w w) (hrt : ∀ a b c, R a b → R b c → R a c) (hSR : ∀ w w', S w → R w w' → S w') (hsel : ∀ (j : Nat) (o : Oper) cs b, ops[j]? = some o → o.op ≠ .select cs b)
    {ψ : Nat → Value → World → Prop} (hψ : ∀ i v w w', ψ i v w → R w w' → ψ i v w') (fuel : Nat) :
    ∀ (n : Nat) (I : List Nat), I.length = n → I.Nodup → ∀ (listed : Array Bool) (a : Act) (w : World),
      (∀ i ∈ I, i ∈ Region.ready md ops listed) →
      (∀ i ∈ I, ∀ j ∈ I, i ≠ j → ∀ x y, ops[i]? = some x → ops[j]? = some y → x.apart ops y = true) →
      (∀ k o, k ∉ I → ops[k]? = some o → listed.getD k true = false → (∃ e ∈ o.after, Region.binds md e = true ∧ e.on ∉ I ∧ listed.getD e.on false = false) ∨ ∀ i ∈ I, ∃ e ∈ o.after, Region.binds md e = true ∧ e.on = i) →
      (∀ i ∈ I, ∃ o, ops[i]? = some o ∧ MakesX P ops S R o (ψ i) a) → S w →
      (∀ vs w', R w w' → S w' → (∀ i ∈ I, ψ i (vs i) w') → wpAnyK P md ops Q S R fuel (setAll I listed) (putAll ops I vs a) w') →
      wpAnyK P md ops Q S R (fuel + n) listed a w := by
  intro n
  induction n with
  | zero =>
    intro I hl _ listed a w _ _ _ _ hS H
    obtain rfl := List.eq_nil_of_length_eq_zero hl
    exact H (fun _ => undef) w (hrf w) hS (fun i hi => by cases hi)
  | succ n ih =>
    intro I hl hnd listed a w h1 h2 h3 hm hS H
    obtain ⟨i0, hi0⟩ : ∃ i, i ∈ I := by
      cases I with
      | nil => simp at hl
      | cons i r => exact ⟨i, List.mem_cons_self ..⟩
    refine ⟨fun h => (by have := h1 i0 hi0; rw [h] at this; cases this), fun j hj => ?_⟩
    have hjI : j ∈ I := by
      refine Classical.byContradiction fun hn => ?_
      obtain ⟨hun, o, ho, hall⟩ := mem_ready.1 hj
      rcases h3 j o hn ho hun with ⟨e, he, hb, _, hf⟩ | hb
      · rw [hall e he hb] at hf; cases hf
      · obtain ⟨e, he, hbb, heq⟩ := hb i0 hi0
        have h4 := hall e he hbb
        rw [heq, (getD_false_of (mem_ready.1 (h1 i0 hi0)).1).1] at h4
        cases h4
    obtain ⟨o, ho, hw, hrun⟩ := hm j hjI
    obtain ⟨v, w1, hr, hR, hv⟩ := hrun w hS
    unfold wpOp
    simp only [ho, hw, if_true, Oper.wp, hr, Oper.upon]
    refine .inl ⟨hSR _ _ hS hR, fun w2 hR2 => ?_⟩
    have hp : I.Perm (j :: I.erase j) := List.perm_cons_erase hjI
    have hne : ∀ i ∈ I.erase j, i ≠ j := fun i hi => by rintro rfl; exact (List.Nodup.mem_erase_iff hnd).1 hi |>.1 rfl
    have hsub : ∀ i ∈ I.erase j, i ∈ I := fun i hi => List.mem_of_mem_erase hi
    have hjb := getD_false_of (mem_ready.1 hj).1
    have hdst : dstOf ops j = o.dst := by unfold dstOf; rw [ho]; rfl
    refine ih (I.erase j) (by rw [List.length_erase_of_mem hjI]; omega) (hnd.erase _) _ _ w2 (fun i hi => ready_mono (h1 i (hsub i hi)) (hne i hi)) (fun i hi k hk => h2 i (hsub i hi) k (hsub k hk)) (fun k ok hk hok hun => ?_) (fun i hi => ?_) (hSR _ _ (hSR _ _ hS hR) hR2) (fun vs w' hR' hS' hψ' => ?_)
    · by_cases hkj : k = j
      · subst hkj
        rw [Array.getD_eq_getD_getElem?, Array.getElem?_setIfInBounds_self_of_lt hjb.2] at hun
        cases hun
      · rw [getD_set_ne true (Ne.symm hkj)] at hun
        have hkI : k ∉ I := fun h => hk ((List.Nodup.mem_erase_iff hnd).2 ⟨hkj, h⟩)
        rcases h3 k ok hkI hok hun with ⟨e, he, hb, hn, hf⟩ | hb
        · refine .inl ⟨e, he, hb, fun h => hn (hsub _ h), ?_⟩
          rw [getD_set_ne false (show j ≠ e.on from fun h => hn (h ▸ hjI))]; exact hf
        · exact .inr fun i hi => hb i (hsub i hi)
    · obtain ⟨oi, hoi, hmi⟩ := hm i (hsub i hi)
      obtain ⟨_, _, h5⟩ := Oper.apart_spec (h2 i (hsub i hi) j hjI (hne i hi) oi o hoi ho)
      exact ⟨oi, hoi, hmi.of_same (execOp_put oi (fun cs b => hsel i oi cs b hoi) a o.dst v h5) (wanted_put oi a o.dst v h5)⟩
    · have hH := H (fun i => if i = j then v else vs i) w' (hrt _ _ _ hR (hrt _ _ _ hR2 hR')) hS' (fun i hi => by
        by_cases hij : i = j
        · subst hij; simp only [if_true]; exact hψ _ _ _ _ hv (hrt _ _ _ hR2 hR')
        · simp only [if_neg hij]; exact hψ' i ((List.Nodup.mem_erase_iff hnd).2 ⟨hij, hi⟩))
      have e1 : setAll I listed = setAll (I.erase j) (listed.setIfInBounds j true) := by
        unfold setAll
        rw [List.Perm.foldl_eq' hp (fun x _ y _ z => by
          by_cases hxy : x = y
          · subst hxy; rfl
          · exact (Array.setIfInBounds_comm _ _ hxy))]
        rfl
      have e2 : putAll ops I (fun i => if i = j then v else vs i) a = putAll ops (I.erase j) vs (a.put o.dst v) := by
        unfold putAll
        rw [List.Perm.foldl_eq' hp (fun x hx y hy z => by
          by_cases hxy : x = y
          · subst hxy; rfl
          · obtain ⟨ox, hox, _⟩ := hm x hx
            obtain ⟨oy, hoy, _⟩ := hm y hy
            obtain ⟨_, h6, _⟩ := Oper.apart_spec (h2 x hx y hy hxy ox oy hox hoy)
            have ex : dstOf ops x = ox.dst := by unfold dstOf; rw [hox]; rfl
            have ey : dstOf ops y = oy.dst := by unfold dstOf; rw [hoy]; rfl
            rw [ex, ey]
            exact Act.put_comm z _ _ h6)]
        rw [List.foldl_cons, hdst]
        simp only [if_true]
        exact putAll_congr (ops := ops) (I.erase j) _ fun i hi => if_neg (hne i hi)
      rw [e1, e2] at hH
      exact hH

/-- The closed test of a family. -/
def famOk (md : Region.Mode) (ops : Array Oper) (listed : Array Bool) (I : List Nat) : Bool :=
  I.all (fun i => (Region.ready md ops listed).contains i) &&
  I.all (fun i => I.all fun j => i == j || (match ops[i]?, ops[j]? with | some x, some y => x.apart ops y | _, _ => true)) &&
  (List.range ops.size).all (fun k => I.contains k || listed.getD k true || (match ops[k]? with
    | some o => (o.after.toList.any fun e => Region.binds md e && !(I.contains e.on) && !(listed.getD e.on false)) || I.all (fun i => o.after.toList.any fun e => Region.binds md e && e.on == i)
    | none => true))
/-- The family I comes up, in whatever order; behind it each has yielded what ψ tells. -/
theorem wpAnyK_family (hrf : ∀ w, R w w) (hrt : ∀ a b c, R a b → R b c → R a c) (hSR : ∀ w w', S w → R w w' → S w') (I : List Nat) {n fuel : Nat} {listed : Array Bool} {a : Act} {w : World}
    (hn : I.length = n) (hnd : I.Nodup) (hs : Region.noSelect ops = true) (hok : famOk md ops listed I = true) {ψ : Nat → Value → World → Prop} (hψ : ∀ i v w w', ψ i v w → R w w' → ψ i v w')
    (hm : ∀ i ∈ I, ∃ o, ops[i]? = some o ∧ MakesX P ops S R o (ψ i) a) (hS : S w)
    (H : ∀ vs w', R w w' → S w' → (∀ i ∈ I, ψ i (vs i) w') → wpAnyK P md ops Q S R fuel (setAll I listed) (putAll ops I vs a) w') :
    wpAnyK P md ops Q S R (fuel + n) listed a w := by
  unfold famOk at hok
  simp only [Bool.and_eq_true, List.all_eq_true] at hok
  obtain ⟨⟨k1, k2⟩, k3⟩ := hok
  refine fam_aux hrf hrt hSR (Region.noSelect_spec hs) hψ fuel n I hn hnd listed a w (fun i hi => by simpa using k1 i hi) (fun i hi j hj hij x y hx hy => ?_) (fun k o hk ho hun => ?_) hm hS H
  · have := k2 i hi j hj
    simp only [hx, hy, Bool.or_eq_true, beq_iff_eq] at this
    exact this.resolve_left hij
  · have hks : k ∈ List.range ops.size := List.mem_range.2 (Array.getElem?_eq_some_iff.1 ho).1
    have := k3 k hks
    simp only [ho, Bool.or_eq_true, List.any_eq_true, Bool.and_eq_true, Bool.not_eq_true', List.all_eq_true, beq_iff_eq] at this
    rcases this with (h | h) | h | h
    · exact absurd (by simpa using h) hk
    · rw [hun] at h; cases h
    · obtain ⟨e, he, ⟨hb, hc⟩, hf⟩ := h
      exact .inl ⟨e, by simpa using he, hb, by simpa using hc, hf⟩
    · refine .inr fun i hi => ?_
      obtain ⟨e, he, hb, heq⟩ := h i hi
      exact ⟨e, by simpa using he, hb, heq⟩

/-- The same, the temporaries told. -/
def putFam (D : List (Nat × Tmp)) (vs : Nat → Value) (a : Act) : Act := D.foldl (fun a p => a.put (some p.2) (vs p.1)) a
theorem putFam_eq (vs : Nat → Value) : ∀ (D : List (Nat × Tmp)) (a : Act), D.all (fun p => dstOf ops p.1 == some p.2) = true → putAll ops (D.map (·.1)) vs a = putFam D vs a
  | [], _, _ => rfl
  | p :: r, a, h => by
    simp only [List.all_cons, Bool.and_eq_true, beq_iff_eq] at h
    show putAll ops (r.map (·.1)) vs (a.put (dstOf ops p.1) (vs p.1)) = putFam r vs (a.put (some p.2) (vs p.1))
    rw [h.1]
    exact putFam_eq vs r _ h.2
theorem wpAnyK_familyD (hrf : ∀ w, R w w) (hrt : ∀ a b c, R a b → R b c → R a c) (hSR : ∀ w w', S w → R w w' → S w') (D : List (Nat × Tmp)) {n fuel : Nat} {listed : Array Bool} {a : Act} {w : World}
    (hn : D.length = n) (hnd : (D.map (·.1)).Nodup) (hs : Region.noSelect ops = true) (hok : famOk md ops listed (D.map (·.1)) = true) (hD : D.all (fun p => dstOf ops p.1 == some p.2) = true) {ψ : Nat → Value → World → Prop} (hψ : ∀ i v w w', ψ i v w → R w w' → ψ i v w')
    (hm : ∀ i ∈ D.map (·.1), ∃ o, ops[i]? = some o ∧ MakesX P ops S R o (ψ i) a) (hS : S w)
    (H : ∀ vs w', R w w' → S w' → (∀ i ∈ D.map (·.1), ψ i (vs i) w') → wpAnyK P md ops Q S R fuel (setAll (D.map (·.1)) listed) (putFam D vs a) w') :
    wpAnyK P md ops Q S R (fuel + n) listed a w :=
  wpAnyK_family hrf hrt hSR (D.map (·.1)) (by rw [List.length_map, hn]) hnd hs hok hψ hm hS fun vs w' h1 h2 h3 => by rw [putFam_eq vs D a hD]; exact H vs w' h1 h2 h3
end
end Go.Proofs.YtklohbglkbhjhaaDoor
