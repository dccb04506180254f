/- Steps: an operation that is guarded; a slice of slices from somewhere on. -/
import Derived.Test.YtfplppldojlanaaDoorLogT
import Derived.Test.YtfplppldojlanaaDoorLogS
namespace Go.Proofs.YtfplppldojlanaaDoor
open Go.RowKit
set_option linter.unusedVariables false

/-- An operation that is wanted is as one without a guard. -/
theorem wpList_unguard {P : Program} {ops : Array Oper} {Q : Exit → Act → World → Prop} {rest : List Oper} {o : Oper} {a : Act} {w : World} (hw : Region.wanted o (yielded ops a.tmps) = true)
    (h : wpList P ops Q ({ o with guard := none } :: rest) a w) : wpList P ops Q (o :: rest) a w := by
  unfold wpList at h ⊢
  rw [if_pos hw]
  exact h
theorem slice_bts (T : Option Addr) (n c k : Nat) (h : k ≤ n) (hc : n ≤ c) (hT : T = none → c = 0) : ∃ T' c', (∀ W, (Instr.slice 33 (.slice T n c) (some (.int .i64 (k : Int))) none none).run Tryd.prog W = .ok (.slice T' (n - k) c') W) ∧ (T' = none → c' = 0) ∧ n - k ≤ c' ∧ c' ≤ c ∧ ∀ W xs, xs.length = n → Has W T xs → Has W T' (xs.drop k) := by
  by_cases he : c = k
  · refine ⟨T, c - k, fun W => ?_, fun h => by have := hT h; omega, by omega, by omega, fun W xs hx hr => ?_⟩
    · simp [Instr.slice, Instr.sliceBounds, Instr.sliceBound, asIntOf, run_underlying Tryd.underlying33, h, he]
    · rw [List.drop_of_length_le (by omega)]
      exact Has.nil_
  · rcases T with _ | ⟨b, off, spot⟩
    · have := hT rfl; omega
    · refine ⟨some (Addr.add ⟨b, off, spot⟩ k), c - k, fun W => ?_, (fun h => by cases h), by omega, by omega, fun W xs hx hr => ?_⟩
      · simp [Instr.slice, Instr.sliceBounds, Instr.sliceBound, asIntOf, run_underlying Tryd.underlying33, h, he]
      · rcases hr with hr | ⟨b', o', h1, h2, h3⟩
        · rw [hr]; simp; exact Has.nil_
        · injection h1 with h1
          injection h1 with e1 e2 e3
          subst e1 e2 e3
          rw [add_plain]
          exact Has.drop (.inr ⟨b, off, rfl, h2, h3⟩) k
theorem own_emptyL (w : World) (base : Nat) (e : TypeId) (size : Nat) (hb : base ≤ w.heap.size) : (w.alloc (.cells #[] e)).ownsRow base e size (.slice (some ⟨w.heap.size, 0, none⟩) 0 0) 0 [] :=
  ⟨by simp, .inr ⟨w.heap.size, 0, #[], rfl, hb, heap_alloc_new w _, Nat.le_refl _, Nat.zero_le _, by simp, by simp⟩⟩
/-- Anew of a log that LayP tells of. -/
theorem logAnew_lay (base p gs gn B q area gen used : Nat) (recs now : List (List Nat)) (T : Option Addr) (n c : Nat) (ss : List SlB) (a : Addr) (w0 w : World) (f wn : Nat) (h : LayP base p gs gn B q area gen used f wn now w0 w) (hB : B ≤ 4000) (hf : FitsD B area) (hS : LgS area gen recs now) (hg1 : 1 ≤ gen) (hg : gen + 1 ≤ 4294967294) (hfl : f ≤ 20000) (hwn : wn ≤ 20000) (hbq : base ≤ q)
    (hn : n = ss.length) (hl : ss.length ≤ 1000) (hstab : ∀ W, KL gs gn q w W → Below base w W → Has W T (ss.map SlB.v) ∧ ∀ s ∈ ss, Has W s.a (ints .u8 s.l)) (hs : ∀ s ∈ ss, s.l.length ≤ 990 ∧ (∀ x ∈ s.l, x < 256) ∧ (s.a = none → s.c = 0)) (hse : S21B base w0 a) :
    Calls Tryd.prog 15 #[lptr q, .slice T n c] w (AnwP base p gs gn B q area gen wn (ss.map (·.l)) w) := by
  obtain ⟨d, cs, cn, A, cf, h1, h2, h3, h4, h5, h6⟩ := h
  exact logAnew_top base p gs gn B cs cn A cf d q area gen used T n c ss a w f wn h1 hB h2 hf hg h3 hfl hwn hbq hn hl hstab hs (by
    have e : (gen + 1 + 1) % 2 = gen % 2 := by omega
    rw [e, h4]
    exact ⟨_, hS.slot, by rw [slotG_tag (by omega)]; omega⟩) (hse.below h6)
end Go.Proofs.YtfplppldojlanaaDoor
