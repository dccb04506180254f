
import Derived.Test.YtfcedbhmbcbiaaaGreatDoorPlainMath
/- Plain mathematics: bytes read as far as they go. -/

namespace Go.Proofs.YtfcedbhmbcbiaaaGreatDoor
open Go.RowKit
set_option linter.unusedVariables false

/-- So many values, and what stands behind. -/
def readQ (t : Int) : Nat → List Nat → Option (List Val3 × List Nat)
  | 0, b => some ([], b)
  | n + 1, b => match takeC t b with
    | some (i, s, k) => (readQ t n (b.drop k)).map fun p => ((t, i, bstr s) :: p.1, p.2)
    | none => none
theorem readQ_none {t : Int} {n : Nat} {b : List Nat} (h : takeC t b = none) : readQ t (n + 1) b = none := by unfold readQ; rw [h]
theorem readQ_some {t : Int} {n : Nat} {b : List Nat} {i : Int} {s : List Nat} {k : Nat} (h : takeC t b = some (i, s, k)) : readQ t (n + 1) b = (readQ t n (b.drop k)).map fun p => ((t, i, bstr s) :: p.1, p.2) := by
  conv => lhs; unfold readQ
  rw [h]
theorem readQ_step {o : Option (List Val3 × List Nat)} (d : List Val3) (x : Val3) : (o.map fun p => (x :: p.1, p.2)).map (fun p => (d ++ p.1, p.2)) = o.map fun p => ((d ++ [x]) ++ p.1, p.2) := by
  cases o with
  | none => rfl
  | some l => simp
theorem readP_readQ {t : Int} : ∀ (n : Nat) (b : List Nat), readP t n b = (match readQ t n b with | some (l, []) => some l | _ => none)
  | 0, [] => rfl
  | 0, _ :: _ => rfl
  | n + 1, b => by
    unfold readP readQ
    cases hT : takeC t b with
    | none => rfl
    | some p =>
      obtain ⟨i, s, k⟩ := p
      simp only
      rw [readP_readQ n (b.drop k)]
      cases readQ t n (b.drop k) with
      | none => rfl
      | some q =>
        obtain ⟨l, r⟩ := q
        cases r <;> rfl
theorem readQ_is {t : Int} (ht : 1 ≤ t ∧ t ≤ 4) : ∀ (n : Nat) (b : List Nat), (∀ x ∈ b, x < 256) → ∀ l r, readQ t n b = some (l, r) → OkL t l ∧ All64 l ∧ l.length = n ∧ plainB l ++ r = b
  | 0, b, _, l, r, h => by cases h; exact ⟨(fun x hx => by cases hx), (fun x hx => by cases hx), rfl, rfl⟩
  | n + 1, b, hb, l, r, h => by
    unfold readQ at h
    split at h
    · rename_i i s k hT
      obtain ⟨h1, h2⟩ := takeC_is ht hb hT
      obtain ⟨h3, h4⟩ := takeC_read hT
      obtain ⟨_, h5, h6, h7⟩ := readC_lt hb h3
      cases hr : readQ t n (b.drop k) with
      | none => rw [hr] at h; cases h
      | some q =>
        obtain ⟨l', r'⟩ := q
        rw [hr] at h
        cases h
        obtain ⟨g1, g2, g3, g4⟩ := readQ_is ht n (b.drop k) (fun x hx => hb x (List.mem_of_mem_drop hx)) l' r' hr
        refine ⟨?_, ?_, by rw [List.length_cons, g3], ?_⟩
        · intro x hx
          rcases List.mem_cons.1 hx with rfl | hx
          · exact ⟨rfl, by rw [bstr_size]; exact h4⟩
          · exact g1 x hx
        · intro x hx
          rcases List.mem_cons.1 hx with rfl | hx
          · exact h6
          · exact g2 x hx
        · rw [plainB_cons, List.append_assoc, g4]
          show oneB t i (bstr s) ++ b.drop k = b
          rw [← h2, List.take_append_drop]
    · cases h
end Go.Proofs.YtfcedbhmbcbiaaaGreatDoor

