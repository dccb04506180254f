/- Plain mathematics of columns of few bits. -/
import Derived.Test.YtfcedbhmbcbiaaaGreatDoorDeltaM
import Derived.Test.YtfcedbhmbcbiaaaGreatDoorBitsMath
namespace Go.Proofs.YtfcedbhmbcbiaaaGreatDoor
open Go.RowKit
set_option linter.unusedVariables false

/-- The bytes of numbers of k bits each, and the numbers of bytes. -/
def putBits (l : List Nat) (k : Nat) : List Nat := chop 8 (cat k l) ((l.length * k + 7) / 8)
def takeBits (b : List Nat) (n k : Nat) : Option (List Nat) := if n ≤ 1000 ∧ k ≤ 64 ∧ b.length = (n * k + 7) / 8 ∧ cat 8 b < 2 ^ (n * k) then some (chop k (cat 8 b) n) else none
theorem putBits_len (l : List Nat) (k : Nat) : (putBits l k).length = (l.length * k + 7) / 8 := chop_length _ _ _
theorem putBits_lt (l : List Nat) (k : Nat) : ∀ x ∈ putBits l k, x < 256 := fun x hx => by have := chop_lt 8 _ _ x hx; simpa using this
theorem takeBits_put (l : List Nat) (k : Nat) (hl : l.length ≤ 1000) (hk : k ≤ 64) (hw : widL l ≤ k) : takeBits (putBits l k) l.length k = some l := by
  obtain ⟨h1, h2, h3⟩ := back_bytes k _ l ((widL_le l k).1 hw) rfl
  unfold takeBits
  rw [if_pos ⟨hl, hk, putBits_len l k, by unfold putBits; rw [h1]; exact h2⟩]
  unfold putBits
  rw [h1, h3]
theorem takeBits_len {b : List Nat} {n k : Nat} {l : List Nat} (h : takeBits b n k = some l) : l.length = n ∧ n ≤ 1000 ∧ k ≤ 64 := by
  unfold takeBits at h
  split at h
  · rename_i hc; cases h; exact ⟨chop_length _ _ _, hc.1, hc.2.1⟩
  · cases h
theorem takeBits_lt {b : List Nat} {n k : Nat} {l : List Nat} (h : takeBits b n k = some l) : ∀ x ∈ l, x < 18446744073709551616 := by
  have hk := (takeBits_len h).2.2
  unfold takeBits at h
  split at h
  · cases h
    intro x hx
    have h1 := chop_lt k _ _ x hx
    have h2 : 2 ^ k ≤ 2 ^ 64 := Nat.pow_le_pow_right (by omega) hk
    have : (2 : Nat) ^ 64 = 18446744073709551616 := by decide
    omega
  · cases h

/-- The least number, m the one ahead of them. -/
def lowF (m : Int) (l : List Val3) : Int := l.foldl (fun m v => min m v.2.1) m
def lowI (l : List Val3) : Int := match l with
  | [] => 0
  | x :: r => lowF x.2.1 (x :: r)
theorem lowF_snoc (m : Int) (l : List Val3) (x : Val3) : lowF m (l ++ [x]) = min (lowF m l) x.2.1 := by unfold lowF; rw [List.foldl_append]; rfl
theorem lowF_le : ∀ (l : List Val3) (m : Int), lowF m l ≤ m ∧ ∀ v ∈ l, lowF m l ≤ v.2.1
  | [], m => ⟨Int.le_refl _, fun v hv => by cases hv⟩
  | x :: r, m => by
    obtain ⟨h1, h2⟩ := lowF_le r (min m x.2.1)
    have e : lowF m (x :: r) = lowF (min m x.2.1) r := rfl
    rw [e]
    refine ⟨by omega, fun v hv => ?_⟩
    rcases List.mem_cons.1 hv with rfl | hv
    · omega
    · exact h2 v hv
theorem lowF_in : ∀ (l : List Val3) (m : Int), In64 m → All64 l → In64 (lowF m l)
  | [], m, h, _ => h
  | x :: r, m, h, hl => by
    have hx := hl x (by simp)
    refine lowF_in r (min m x.2.1) ?_ (fun y hy => hl y (List.mem_cons_of_mem _ hy))
    unfold In64 at *
    omega
theorem lowI_in {l : List Val3} (h : All64 l) : In64 (lowI l) := by
  match l, h with
  | [], _ => unfold In64; exact ⟨by decide, by decide⟩
  | x :: r, h => exact lowF_in _ _ (h x (by simp)) h
theorem lowI_le {l : List Val3} : ∀ v ∈ l, lowI l ≤ v.2.1 := by
  match l with
  | [] => intro v hv; cases hv
  | x :: r => exact (lowF_le (x :: r) x.2.1).2
/-- How much each is above m. -/
def aboveL (m : Int) (l : List Val3) : List Nat := l.map fun v => (v.2.1 - m).toNat
theorem aboveL_len (m : Int) (l : List Val3) : (aboveL m l).length = l.length := List.length_map _
theorem aboveL_lt {m : Int} {l : List Val3} (hm : In64 m) (h64 : All64 l) : ∀ x ∈ aboveL m l, x < 18446744073709551616 := by
  intro x hx
  obtain ⟨v, hv, rfl⟩ := List.mem_map.1 hx
  have := h64 v hv
  unfold In64 at *
  omega
theorem aboveL_take (m : Int) (l : List Val3) (k : Nat) : aboveL m (l.take k) = (aboveL m l).take k := by unfold aboveL; rw [List.map_take]
def widA (l : List Val3) : Nat := widL (aboveL (lowI l) l)
theorem widA_le {l : List Val3} (h64 : All64 l) : widA l ≤ 64 := widL_le64 _ (aboveL_lt (lowI_in h64) h64)
def packB (l : List Val3) : List Nat := if l = [] then [] else putNum (zig (lowI l)) ++ (widA l :: putBits (aboveL (lowI l) l) (widA l))
/-- The values of numbers above m. -/
def unpackV (t m : Int) (l : List Nat) : List Val3 := l.map fun (a : Nat) => (t, w64 (m + (a : Int)), ⟨#[]⟩)
def readK (t : Int) (n : Nat) (b : List Nat) : Option (List Val3) :=
  if n = 0 then some [] else
    match takeNum b with
    | none => none
    | some (u, k) => match b.drop k with
      | [] => none
      | w :: r => (takeBits r n w).map (unpackV t (zag u))
abbrev KT (t : Int) : Prop := t = 1 ∨ t = 2 ∨ t = 3
def putK (t : Int) (l : List Val3) : Option (List Nat) := if KT t ∧ OkL t l then some (packB l) else none
def takeK (t n : Int) (b : List Nat) : Option (List Val3) :=
  if (1 ≤ t ∧ t ≤ 4) ∧ 0 ≤ n ∧ n ≤ 1000 then
    match readK t n.toNat b with
    | none => none
    | some l => if putK t l = some b then some l else none
  else none
theorem putK_some {t : Int} {l : List Val3} (ht : KT t) (ho : OkL t l) : ∃ b, putK t l = some b := ⟨packB l, by unfold putK; rw [if_pos ⟨ht, ho⟩]⟩
theorem putK_is {t : Int} {l : List Val3} {b : List Nat} (h : putK t l = some b) : KT t ∧ OkL t l ∧ b = packB l := by
  unfold putK at h
  split at h
  · rename_i hc; cases h; exact ⟨hc.1, hc.2, rfl⟩
  · cases h
theorem putK_no {t : Int} {l : List Val3} (ht : ¬ KT t) : putK t l = none := by unfold putK; rw [if_neg fun h => ht h.1]
theorem packB_lt {l : List Val3} (h64 : All64 l) : ∀ x ∈ packB l, x < 256 := by
  unfold packB
  split
  · intro x hx; cases hx
  · intro x hx
    rcases List.mem_append.1 hx with hx | hx
    · have := lowI_in h64
      exact putNum_lt (zig_lt _ this.1 this.2) x hx
    · rcases List.mem_cons.1 hx with rfl | hx
      · have := widA_le h64; omega
      · exact putBits_lt _ _ x hx
theorem putK_lt {t : Int} {l : List Val3} {b : List Nat} (h64 : All64 l) (h : putK t l = some b) : ∀ x ∈ b, x < 256 := by
  obtain ⟨_, _, rfl⟩ := putK_is h; exact packB_lt h64
theorem packB_le {l : List Val3} (h64 : All64 l) : (packB l).length ≤ l.length * 21 := by
  unfold packB
  split
  · simp
  · rename_i hne
    have h0 : 0 < l.length := List.length_pos_iff.2 hne
    have h1 := putNum_le (zig (lowI l))
    have h2 := widA_le h64
    have h3 : l.length * widA l ≤ l.length * 64 := Nat.mul_le_mul_left _ h2
    rw [List.length_append, List.length_cons, putBits_len, aboveL_len]
    omega
theorem putK_le {t : Int} {l : List Val3} {b : List Nat} (h64 : All64 l) (h : putK t l = some b) : b.length ≤ l.length * 21 := by
  obtain ⟨_, _, rfl⟩ := putK_is h; exact packB_le h64
theorem unpack_above {t : Int} (ht : KT t) {l : List Val3} (ho : OkL t l) (h64 : All64 l) : unpackV t (lowI l) (aboveL (lowI l) l) = l := by
  unfold unpackV aboveL
  rw [List.map_map]
  conv => rhs; rw [← List.map_id l]
  refine List.map_congr_left fun v hv => ?_
  obtain ⟨t', i, s⟩ := v
  obtain ⟨h1, hm⟩ := ho _ hv
  have hle := lowI_le _ hv
  have hi := h64 _ hv
  dsimp only at h1 hm hle hi
  subst h1
  have hs : s = ⟨#[]⟩ := byte_nil (by unfold MayV at hm; omega)
  subst hs
  show (t', w64 (lowI l + ((i - lowI l).toNat : Int)), _) = _
  rw [show lowI l + ((i - lowI l).toNat : Int) = i by omega, w64_of hi]
  rfl
theorem readK_put {t : Int} (ht : KT t) {l : List Val3} (ho : OkL t l) (h64 : All64 l) (hl : l.length ≤ 1000) : readK t l.length (packB l) = some l := by
  unfold readK packB
  by_cases h0 : l = []
  · subst h0; rfl
  · have hp : 0 < l.length := List.length_pos_iff.2 h0
    have hlow := lowI_in h64
    rw [if_neg (by omega), if_neg h0, takeNum_put (zig_lt _ hlow.1 hlow.2)]
    simp only [List.drop_left]
    have hb := takeBits_put (aboveL (lowI l) l) (widA l) (by rw [aboveL_len]; exact hl) (widA_le h64) (Nat.le_refl _)
    rw [aboveL_len] at hb
    rw [hb, zag_zig]
    show some (unpackV t (lowI l) (aboveL (lowI l) l)) = some l
    rw [unpack_above ht ho h64]
theorem readK_is {t : Int} {n : Nat} {b : List Nat} {l : List Val3} (h : readK t n b = some l) : l.length = n ∧ All64 l := by
  unfold readK at h
  split at h
  · cases h; rename_i h0; exact ⟨h0.symm, fun x hx => by cases hx⟩
  · split at h
    · cases h
    · split at h
      · cases h
      · rename_i u k _ _ w r _
        cases hT : takeBits r n w with
        | none => rw [hT] at h; cases h
        | some q =>
          rw [hT] at h; cases h
          refine ⟨by unfold unpackV; rw [List.length_map]; exact (takeBits_len hT).1, fun x hx => ?_⟩
          obtain ⟨a, _, rfl⟩ := List.mem_map.1 hx
          exact w64_in _
theorem takeK_put {t : Int} {l : List Val3} (h64 : All64 l) (hl : l.length ≤ 1000) {b : List Nat} (h : putK t l = some b) : takeK t l.length b = some l := by
  obtain ⟨ht, ho, rfl⟩ := putK_is h
  unfold takeK
  rw [if_pos ⟨by unfold KT at ht; omega, by omega, by omega⟩, show ((l.length : Nat) : Int).toNat = l.length from rfl, readK_put ht ho h64 hl]
  simp only
  rw [if_pos h]
theorem takeK_is {t n : Int} {b : List Nat} {l : List Val3} (h : takeK t n b = some l) : putK t l = some b ∧ All64 l ∧ (l.length : Int) = n ∧ n ≤ 1000 := by
  unfold takeK at h
  split at h
  · rename_i hc
    split at h
    · cases h
    · rename_i l' hr
      split at h
      · rename_i hp
        cases h
        obtain ⟨h1, h2⟩ := readK_is hr
        exact ⟨hp, h2, by omega, hc.2.2⟩
      · cases h
  · cases h
theorem takeK_len {t n : Int} {b : List Nat} {l : List Val3} (h256 : ∀ x ∈ b, x < 256) (h : takeK t n b = some l) : l.length ≤ 1000 := by
  obtain ⟨_, _, h1, h2⟩ := takeK_is h; omega
theorem packB_prefix {l m : List Val3} (al : All64 l) (am : All64 m) (hlm : l.length = m.length) {c : List Nat} (h : packB m = packB l ++ c) : c = [] := by
  by_cases h0 : l = []
  · subst h0
    have : m = [] := List.eq_nil_of_length_eq_zero hlm.symm
    subst this
    simpa [packB] using h.symm
  · have h1 : m ≠ [] := fun e => h0 (List.eq_nil_of_length_eq_zero (by rw [hlm, e]; rfl))
    unfold packB at h
    rw [if_neg h0, if_neg h1, List.append_assoc] at h
    have hl := lowI_in al
    have hm := lowI_in am
    have e1 := takeNum_put (zig_lt _ hm.1 hm.2) (widA m :: putBits (aboveL (lowI m) m) (widA m))
    have e2 := takeNum_put (zig_lt _ hl.1 hl.2) ((widA l :: putBits (aboveL (lowI l) l) (widA l)) ++ c)
    rw [h, e2] at e1
    have e3 : zig (lowI l) = zig (lowI m) := by injection e1 with e; injection e
    rw [e3] at h
    have h := List.append_cancel_left h
    rw [List.cons_append] at h
    injection h with hw hx
    have := congrArg List.length hx
    rw [List.length_append, putBits_len, putBits_len, aboveL_len, aboveL_len, hw, hlm] at this
    exact List.eq_nil_of_length_eq_zero (by omega)
theorem takeK_none {t : Int} {l : List Val3} (h64 : All64 l) {b c d : List Nat} (hc : c ≠ []) (h : (putK t l = some b ∧ d = b ++ c) ∨ (putK t l = some (b ++ c) ∧ d = b)) : takeK t l.length d = none := by
  cases hd : takeK t l.length d with
  | none => rfl
  | some m =>
    exfalso
    obtain ⟨h1, h2, h3, _⟩ := takeK_is hd
    obtain ⟨ht, om, e1⟩ := putK_is h1
    rcases h with ⟨h, rfl⟩ | ⟨h, rfl⟩
    · obtain ⟨_, ol, e2⟩ := putK_is h
      exact hc (packB_prefix h64 h2 (by omega) (by rw [← e1, ← e2]))
    · obtain ⟨_, ol, e2⟩ := putK_is h
      exact hc (packB_prefix h2 h64 (by omega) (by rw [← e1, ← e2]))
theorem takeK_more {t : Int} {l : List Val3} (h64 : All64 l) {b : List Nat} (h : putK t l = some b) {x : Nat} (hx : x < 256) : takeK t l.length (b ++ [x]) = none :=
  takeK_none h64 (b := b) (c := [x]) (by simp) (.inl ⟨h, rfl⟩)
theorem takeK_cut {t : Int} {l : List Val3} (h64 : All64 l) {b : List Nat} (h : putK t l = some b) {q : Nat} (hq : q < b.length) : takeK t l.length (b.take q) = none :=
  takeK_none h64 (b := b.take q) (c := b.drop q) (fun e => by have := congrArg List.length e; rw [List.length_drop] at this; simp at this; omega) (.inr ⟨by rw [List.take_append_drop]; exact h, rfl⟩)
end Go.Proofs.YtfcedbhmbcbiaaaGreatDoor
