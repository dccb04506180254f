/- Plain mathematics of columns by steps. -/
import Derived.Test.YtfcedbhmbcbiaaaGreatDoorPlainMath
import Derived.Laws.BitsLemmas
namespace Go.Proofs.YtfcedbhmbcbiaaaGreatDoor
open Go.RowKit
set_option linter.unusedVariables false

/-- A number as one of 64 bits. -/
def w64 (x : Int) : Int := IntKind.i64.wrap x
theorem w64_in (x : Int) : In64 (w64 x) := by unfold In64 w64; rw [IntKind.wrap_i64]; omega
theorem w64_of {x : Int} (h : In64 x) : w64 x = x := by unfold In64 at h; unfold w64; rw [IntKind.wrap_i64]; omega
theorem w64_back {p i : Int} (h : In64 i) : w64 (p + w64 (i - p)) = i := by
  unfold In64 at h; unfold w64; rw [IntKind.wrap_i64, IntKind.wrap_i64]; omega
theorem w64_forth {p z : Int} (h : In64 z) : w64 (w64 (p + z) - p) = z := by
  unfold In64 at h; unfold w64; rw [IntKind.wrap_i64, IntKind.wrap_i64]; omega
theorem zig_w64_lt (x : Int) : zig (w64 x) < 18446744073709551616 := zig_lt _ (w64_in x).1 (w64_in x).2

/-- The bytes of numbers, p the one ahead of them. -/
def stepsB : Int → List Val3 → List Nat
  | _, [] => []
  | p, x :: r => putNum (zig (w64 (x.2.1 - p))) ++ stepsB x.2.1 r
/-- The last number, p the one ahead of all. -/
def lastI : Int → List Val3 → Int
  | p, [] => p
  | _, x :: r => lastI x.2.1 r
theorem stepsB_append : ∀ (p : Int) (a b : List Val3), stepsB p (a ++ b) = stepsB p a ++ stepsB (lastI p a) b
  | p, [], b => rfl
  | p, x :: r, b => by
    show putNum _ ++ stepsB x.2.1 (r ++ b) = _
    rw [stepsB_append x.2.1 r b, ← List.append_assoc]; rfl
theorem lastI_append : ∀ (p : Int) (a b : List Val3), lastI p (a ++ b) = lastI (lastI p a) b
  | p, [], b => rfl
  | p, x :: r, b => lastI_append x.2.1 r b
theorem stepsB_snoc (p : Int) (a : List Val3) (x : Val3) : stepsB p (a ++ [x]) = stepsB p a ++ putNum (zig (w64 (x.2.1 - lastI p a))) := by
  rw [stepsB_append]
  show _ ++ (putNum _ ++ []) = _
  rw [List.append_nil]
theorem lastI_snoc (p : Int) (a : List Val3) (x : Val3) : lastI p (a ++ [x]) = x.2.1 := by rw [lastI_append]; rfl
theorem stepsB_le : ∀ (p : Int) (l : List Val3), (stepsB p l).length ≤ l.length * 10
  | p, [] => by simp [stepsB]
  | p, x :: r => by
    have h1 := putNum_le (zig (w64 (x.2.1 - p)))
    have h2 := stepsB_le x.2.1 r
    show (putNum _ ++ stepsB x.2.1 r).length ≤ _
    rw [List.length_append, List.length_cons]; omega
theorem stepsB_lt : ∀ (p : Int) (l : List Val3), ∀ y ∈ stepsB p l, y < 256
  | p, [], y, h => by cases h
  | p, x :: r, y, h => by
    rcases List.mem_append.1 (show y ∈ putNum _ ++ stepsB x.2.1 r from h) with h | h
    · exact putNum_lt (zig_w64_lt _) y h
    · exact stepsB_lt x.2.1 r y h
theorem nat_pos {p : Int} {l : List Val3} (h : l ≠ []) : 0 < (stepsB p l).length := by
  match l, h with
  | x :: r, _ =>
    show 0 < (putNum _ ++ stepsB x.2.1 r).length
    rw [List.length_append]
    have := putNum_pos (zig (w64 (x.2.1 - p)))
    omega

/-- So many values, p the number ahead of them. -/
def readD (t : Int) : Nat → Int → List Nat → Option (List Val3)
  | 0, _, [] => some []
  | 0, _, _ :: _ => none
  | n + 1, p, b => match takeNum b with
    | some (u, k) => if MayV t (w64 (p + zag u)) 0 then (readD t n (w64 (p + zag u)) (b.drop k)).map fun l => (t, w64 (p + zag u), ⟨#[]⟩) :: l else none
    | none => none
theorem readD_none {t : Int} {n : Nat} {p : Int} {b : List Nat} (h : takeNum b = none) : readD t (n + 1) p b = none := by unfold readD; rw [h]
theorem readD_not {t : Int} {n : Nat} {p : Int} {b : List Nat} {u k : Nat} (h : takeNum b = some (u, k)) (hm : ¬ MayV t (w64 (p + zag u)) 0) : readD t (n + 1) p b = none := by
  unfold readD; rw [h]; simp only; rw [if_neg hm]
theorem readD_some {t : Int} {n : Nat} {p : Int} {b : List Nat} {u k : Nat} (h : takeNum b = some (u, k)) (hm : MayV t (w64 (p + zag u)) 0) : readD t (n + 1) p b = (readD t n (w64 (p + zag u)) (b.drop k)).map fun l => (t, w64 (p + zag u), ⟨#[]⟩) :: l := by
  conv => lhs; unfold readD
  rw [h]; simp only; rw [if_pos hm]
/-- So many values, as far as it goes, and what stands behind. -/
def readE (t : Int) : Nat → Int → List Nat → Option (List Val3 × List Nat)
  | 0, _, b => some ([], b)
  | n + 1, p, b => match takeNum b with
    | some (u, k) => (readE t n (w64 (p + zag u)) (b.drop k)).map fun q => ((t, w64 (p + zag u), ⟨#[]⟩) :: q.1, q.2)
    | none => none
theorem readE_none {t : Int} {n : Nat} {p : Int} {b : List Nat} (h : takeNum b = none) : readE t (n + 1) p b = none := by unfold readE; rw [h]
theorem readE_some {t : Int} {n : Nat} {p : Int} {b : List Nat} {u k : Nat} (h : takeNum b = some (u, k)) : readE t (n + 1) p b = (readE t n (w64 (p + zag u)) (b.drop k)).map fun q => ((t, w64 (p + zag u), ⟨#[]⟩) :: q.1, q.2) := by
  conv => lhs; unfold readE
  rw [h]
theorem readE_step {o : Option (List Val3 × List Nat)} (d : List Val3) (x : Val3) : (o.map fun p => (x :: p.1, p.2)).map (fun p => (d ++ p.1, p.2)) = o.map fun p => ((d ++ [x]) ++ p.1, p.2) := by
  cases o with
  | none => rfl
  | some l => simp
theorem readE_is {t : Int} : ∀ (n : Nat) (p : Int) (b : List Nat), (∀ x ∈ b, x < 256) → ∀ l r, readE t n p b = some (l, r) → (∀ x ∈ l, x.1 = t ∧ x.2.2 = ⟨#[]⟩) ∧ All64 l ∧ l.length = n ∧ stepsB p l ++ r = b
  | 0, p, b, _, l, r, h => by cases h; exact ⟨(fun x hx => by cases hx), (fun x hx => by cases hx), rfl, rfl⟩
  | n + 1, p, b, hb, l, r, h => by
    cases hT : takeNum b with
    | none => rw [readE_none hT] at h; cases h
    | some uk =>
      obtain ⟨u, k⟩ := uk
      rw [readE_some hT] at h
      obtain ⟨h1, h2, h3⟩ := takeNum_is hb hT
      cases hr : readE t n (w64 (p + zag u)) (b.drop k) with
      | none => rw [hr] at h; cases h
      | some q =>
        obtain ⟨l', r'⟩ := q
        rw [hr] at h
        cases h
        obtain ⟨g1, g2, g3, g4⟩ := readE_is n _ _ (fun x hx => hb x (List.mem_of_mem_drop hx)) l' r' hr
        refine ⟨?_, ?_, by rw [List.length_cons, g3], ?_⟩
        · intro x hx
          rcases List.mem_cons.1 hx with rfl | hx
          · exact ⟨rfl, rfl⟩
          · exact g1 x hx
        · intro x hx
          rcases List.mem_cons.1 hx with rfl | hx
          · exact w64_in _
          · exact g2 x hx
        · show (putNum (zig (w64 (w64 (p + zag u) - p))) ++ stepsB (w64 (p + zag u)) l') ++ r' = b
          rw [w64_forth (zag_in u h1), zig_zag, List.append_assoc, g4, (List.prefix_iff_eq_take.1 h3), ← h2, List.take_append_drop]
theorem mayV_nil {t i : Int} (ht : t = 1 ∨ t = 2) {n : Nat} (h : MayV t i n) : n = 0 := by unfold MayV at h; omega
/-- What is read whole is what is read as far as it goes, where it may be. -/
theorem readD_readE {t : Int} : ∀ (n : Nat) (p : Int) (b : List Nat) (l : List Val3), readD t n p b = some l ↔ (readE t n p b = some (l, []) ∧ OkL t l)
  | 0, p, [], l => by
    constructor
    · intro h; cases h; exact ⟨rfl, fun x hx => by cases hx⟩
    · rintro ⟨h, _⟩; cases h; rfl
  | 0, p, _ :: _, l => by
    constructor
    · intro h; cases h
    · rintro ⟨h, _⟩; cases h
  | n + 1, p, b, l => by
    cases hT : takeNum b with
    | none => rw [readD_none hT, readE_none hT]; simp
    | some uk =>
      obtain ⟨u, k⟩ := uk
      rw [readE_some hT]
      by_cases hm : MayV t (w64 (p + zag u)) 0
      · rw [readD_some hT hm]
        constructor
        · intro h
          cases hr : readD t n (w64 (p + zag u)) (b.drop k) with
          | none => rw [hr] at h; cases h
          | some l' =>
            rw [hr] at h; cases h
            obtain ⟨h1, h2⟩ := (readD_readE n _ _ l').1 hr
            rw [h1]
            refine ⟨rfl, fun x hx => ?_⟩
            rcases List.mem_cons.1 hx with rfl | hx
            · exact ⟨rfl, hm⟩
            · exact h2 x hx
        · rintro ⟨h, ok⟩
          cases hr : readE t n (w64 (p + zag u)) (b.drop k) with
          | none => rw [hr] at h; cases h
          | some q =>
            obtain ⟨l', r⟩ := q
            rw [hr] at h; cases h
            rw [(readD_readE n _ _ l').2 ⟨hr, fun x hx => ok x (List.mem_cons_of_mem _ hx)⟩]
            rfl
      · rw [readD_not hT hm]
        constructor
        · intro h; cases h
        · rintro ⟨h, ok⟩
          cases hr : readE t n (w64 (p + zag u)) (b.drop k) with
          | none => rw [hr] at h; cases h
          | some q =>
            obtain ⟨l', r⟩ := q
            rw [hr] at h; cases h
            exact absurd (ok _ (List.mem_cons_self ..)).2 hm
theorem readD_is {t : Int} {n : Nat} {p : Int} {b : List Nat} (hb : ∀ x ∈ b, x < 256) {l : List Val3} (h : readD t n p b = some l) : OkL t l ∧ All64 l ∧ l.length = n ∧ stepsB p l = b := by
  obtain ⟨h1, h2⟩ := (readD_readE n p b l).1 h
  obtain ⟨_, h3, h4, h5⟩ := readE_is n p b hb l [] h1
  exact ⟨h2, h3, h4, by rw [← h5, List.append_nil]⟩
theorem byte_nil {s : ByteArray} (h : s.size = 0) : s = ⟨#[]⟩ := by
  cases s with
  | mk d =>
    have : d = #[] := Array.eq_empty_of_size_eq_zero h
    rw [this]
theorem readE_put {t : Int} (ht : t = 1 ∨ t = 2) : ∀ (p : Int) (l : List Val3) (r : List Nat), OkL t l → All64 l → readE t l.length p (stepsB p l ++ r) = some (l, r)
  | p, [], r, _, _ => rfl
  | p, x :: l, r, ok, h64 => by
    obtain ⟨t', i, s⟩ := x
    obtain ⟨rfl, hm⟩ := ok _ (List.mem_cons_self ..)
    have hs := byte_nil (mayV_nil ht hm)
    have hi := h64 _ (List.mem_cons_self ..)
    subst hs
    have ih := readE_put ht i l r (fun y hy => ok y (List.mem_cons_of_mem _ hy)) (fun y hy => h64 y (List.mem_cons_of_mem _ hy))
    have hT : takeNum (stepsB p ((t', i, ⟨#[]⟩) :: l) ++ r) = some (zig (w64 (i - p)), (putNum (zig (w64 (i - p)))).length) := by
      show takeNum ((putNum (zig (w64 (i - p))) ++ stepsB i l) ++ r) = _
      rw [List.append_assoc]
      exact takeNum_put (zig_w64_lt _) _
    rw [List.length_cons, readE_some hT]
    have e : (stepsB p ((t', i, ⟨#[]⟩) :: l) ++ r).drop (putNum (zig (w64 (i - p)))).length = stepsB i l ++ r := by
      show ((putNum (zig (w64 (i - p))) ++ stepsB i l) ++ r).drop _ = _
      rw [List.append_assoc, List.drop_left]
    rw [e, zag_zig, w64_back hi, ih]
    rfl
theorem readD_put {t : Int} (ht : t = 1 ∨ t = 2) (p : Int) (l : List Val3) (ok : OkL t l) (h64 : All64 l) : readD t l.length p (stepsB p l) = some l := by
  refine (readD_readE _ _ _ _).2 ⟨?_, ok⟩
  have := readE_put ht p l [] ok h64
  rwa [List.append_nil] at this
instance okL_dec (t : Int) (l : List Val3) : Decidable (OkL t l) := by unfold OkL; infer_instance
/-- The bytes of a list of type t, by steps; and the values of bytes. -/
def putD (t : Int) (l : List Val3) : Option (List Nat) := if (t = 1 ∨ t = 2) ∧ OkL t l then some (stepsB 0 l) else none
def takeD (t n : Int) (b : List Nat) : Option (List Val3) := if (t = 1 ∨ t = 2) ∧ 0 ≤ n ∧ n ≤ 1000 then readD t n.toNat 0 b else none
theorem putD_some {t : Int} {l : List Val3} (ht : t = 1 ∨ t = 2) (ho : OkL t l) : ∃ b, putD t l = some b := ⟨stepsB 0 l, by unfold putD; rw [if_pos ⟨ht, ho⟩]⟩
theorem putD_is {t : Int} {l : List Val3} {b : List Nat} (h : putD t l = some b) : (t = 1 ∨ t = 2) ∧ OkL t l ∧ b = stepsB 0 l := by
  unfold putD at h
  split at h
  · rename_i hc; cases h; exact ⟨hc.1, hc.2, rfl⟩
  · cases h
theorem putD_no {t : Int} {l : List Val3} (ht : ¬ (t = 1 ∨ t = 2)) : putD t l = none := by unfold putD; rw [if_neg fun h => ht h.1]
theorem putD_lt {t : Int} {l : List Val3} {b : List Nat} (h : putD t l = some b) : ∀ x ∈ b, x < 256 := by
  obtain ⟨_, _, rfl⟩ := putD_is h; exact stepsB_lt 0 l
theorem putD_le {t : Int} {l : List Val3} {b : List Nat} (h : putD t l = some b) : b.length ≤ l.length * 10 := by
  obtain ⟨_, _, rfl⟩ := putD_is h; exact stepsB_le 0 l
theorem takeD_put {t : Int} {l : List Val3} (h64 : All64 l) (hl : l.length ≤ 1000) {b : List Nat} (h : putD t l = some b) : takeD t l.length b = some l := by
  obtain ⟨ht, ho, rfl⟩ := putD_is h
  unfold takeD
  rw [if_pos ⟨ht, by omega, by omega⟩]
  exact readD_put ht 0 l ho h64
theorem takeD_is {t n : Int} {b : List Nat} (h256 : ∀ x ∈ b, x < 256) {l : List Val3} (h : takeD t n b = some l) : putD t l = some b ∧ All64 l ∧ (l.length : Int) = n ∧ n ≤ 1000 := by
  unfold takeD at h
  split at h
  · rename_i hc
    obtain ⟨h1, h2, h3, h4⟩ := readD_is h256 h
    refine ⟨?_, h2, by omega, hc.2.2⟩
    unfold putD
    rw [if_pos ⟨hc.1, h1⟩, h4]
  · cases h
theorem takeD_len {t n : Int} {b : List Nat} {l : List Val3} (h256 : ∀ x ∈ b, x < 256) (h : takeD t n b = some l) : l.length ≤ 1000 := by
  obtain ⟨_, _, h1, h2⟩ := takeD_is h256 h; omega
/-- Two lists of as many values, the bytes of the one the first bytes of the other's: the same. -/
theorem stepsB_prefix {t : Int} (ht : t = 1 ∨ t = 2) {l m : List Val3} (ol : OkL t l) (om : OkL t m) (al : All64 l) (am : All64 m) (hlm : l.length = m.length) {c : List Nat} (h : stepsB 0 m = stepsB 0 l ++ c) : c = [] := by
  have h1 := readE_put ht 0 l c ol al
  have h2 := readE_put ht 0 m [] om am
  rw [List.append_nil, h, ← hlm, h1] at h2
  cases h2; rfl
theorem takeD_none {t : Int} {l : List Val3} (h64 : All64 l) {b c d : List Nat} (h256 : ∀ x ∈ b ++ c, x < 256) (hc : c ≠ []) (h : (putD t l = some b ∧ d = b ++ c) ∨ (putD t l = some (b ++ c) ∧ d = b)) : takeD t l.length d = none := by
  cases hd : takeD t l.length d with
  | none => rfl
  | some m =>
    exfalso
    have hd256 : ∀ x ∈ d, x < 256 := by
      rcases h with ⟨_, rfl⟩ | ⟨_, rfl⟩
      · exact h256
      · exact fun x hx => h256 x (List.mem_append_left _ hx)
    obtain ⟨h1, h2, h3, _⟩ := takeD_is hd256 hd
    obtain ⟨ht, om, e1⟩ := putD_is h1
    rcases h with ⟨h, rfl⟩ | ⟨h, rfl⟩
    · obtain ⟨_, ol, e2⟩ := putD_is h
      exact hc (stepsB_prefix ht ol om h64 h2 (by omega) (by rw [← e1, ← e2]))
    · obtain ⟨_, ol, e2⟩ := putD_is h
      exact hc (stepsB_prefix ht om ol h2 h64 (by omega) (by rw [← e1, ← e2]))
theorem takeD_more {t : Int} {l : List Val3} (h64 : All64 l) {b : List Nat} (h : putD t l = some b) {x : Nat} (hx : x < 256) : takeD t l.length (b ++ [x]) = none :=
  takeD_none h64 (b := b) (c := [x]) (fun y hy => by
    rcases List.mem_append.1 hy with hy | hy
    · exact putD_lt h y hy
    · rw [List.mem_singleton] at hy; omega) (by simp) (.inl ⟨h, rfl⟩)
theorem takeD_cut {t : Int} {l : List Val3} (h64 : All64 l) {b : List Nat} (h : putD t l = some b) {q : Nat} (hq : q < b.length) : takeD t l.length (b.take q) = none :=
  takeD_none h64 (b := b.take q) (c := b.drop q) (fun y hy => by rw [List.take_append_drop] at hy; exact putD_lt h y hy) (fun e => by have := congrArg List.length e; rw [List.length_drop] at this; simp at this; omega) (.inr ⟨by rw [List.take_append_drop]; exact h, rfl⟩)
end Go.Proofs.YtfcedbhmbcbiaaaGreatDoor
