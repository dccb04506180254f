/- The reference's Take at all bytes. -/
import Derived.Test.YtbmlipandjbbbaaDoorRefTakeN
namespace Go.Proofs.YtbmlipandjbbbaaDoor
open Go.RowKit
set_option linter.unusedVariables false

theorem takeV_if {b : List Nat} {t : Nat} {i : Int} {l : List Nat} {n : Nat} (h256 : ∀ x ∈ b, x < 256) (h : readV b = some (t, i, l, n)) (ok : Bool) (hok : ok = true ↔ MayV t i l.length) : takeV b = if ok then some (t, i, l, n) else none := by
  cases ok
  · exact takeV_not h256 h fun hm => by have := hok.2 hm; cases this
  · exact takeV_may h256 h (hok.1 rfl)

theorem refTake_any (A : Option Addr) (c : Nat) (b : List Nat) (w : World) (hr : Has w A (ints .u8 b)) (h256 : ∀ x ∈ b, x < 256) (hb : b.length ≤ 1000000) (hcap : b.length ≤ c) (hc : c ≤ 9223372036854775807) :
    Calls Tryd.prog 14 #[.slice A b.length c] w (TakesV b w) := by
  match b, hr, h256, hb, hcap with
  | [], hr, h256, hb, hcap => exact refTake_nil A c w
  | t :: r, hr, h256, hb, hcap =>
    obtain ⟨bb, off, rfl, hcl⟩ := hr.all (by simp [ints])
    have hc0 : w.cell? ⟨bb, off, none⟩ = some (.int .u8 (t : Int)) := hcl 0 _ rfl
    have hbb := block_lt_of_cell hc0
    have hl : (t :: r).length = r.length + 1 := rfl
    rw [hl] at hb hcap ⊢
    have hr1 : Has w (some ⟨bb, off + 1, none⟩) (ints .u8 r) := by
      have := hr.drop 1
      rwa [ints_drop] at this
    by_cases h4 : t = 4
    · subst h4
      match r, hr1, hcl, h256, hb, hcap with
      | [], hr1, hcl, h256, hb, hcap =>
        exact refTake_cut bb off 1 c [4] 1 w (by omega) hbb (fun w' l => refSize_4a bb off c w' (l.cell hc0)) (by omega) (by omega) (by omega) rfl
      | x :: q, hr1, hcl, h256, hb, hcap =>
        have hc1 : w.cell? ⟨bb, off + 1, none⟩ = some (.int .u8 (x : Int)) := hcl 1 _ rfl
        have hx : x < 256 := h256 x (by simp)
        have hl2 : (x :: q).length + 1 = q.length + 2 := rfl
        rw [hl2] at hb hcap ⊢
        by_cases hxq : x ≤ q.length
        · have hq : Has w (some ⟨bb, off + 2, none⟩) (ints .u8 (q.take x)) := by
            have := (hr1.drop 1).take x
            rwa [ints_drop, ints_take'] at this
          have hlen : (q.take x).length = x := by rw [List.length_take]; omega
          refine refTake_text bb off (q.length + 2) c x (q.take x) (4 :: x :: q) w (by omega) (by omega) hcap hc hbb hc0 hc1 hx (by omega) hlen hq fun ok hok => takeV_if h256 (by rw [readV_4, if_pos hxq]) ok (by rw [hlen]; exact hok)
        · exact refTake_cut bb off (q.length + 2) c (4 :: x :: q) (1 + (x : Int)) w (by omega) hbb (fun w' l => refSize_4b bb off _ c x w' (l.cell hc0) (l.cell hc1) hx (by omega)) (by omega) (by omega) (by omega) (by unfold takeV; rw [readV_4, if_neg hxq])
    · have ht : t < 256 := h256 t (by simp)
      have hr256 : ∀ x ∈ r, x < 256 := fun x hx => h256 x (List.mem_cons_of_mem _ hx)
      by_cases hw : r.length < widthV t
      · have hw8 := widthV_le t
        exact refTake_cut bb off (r.length + 1) c (t :: r) (widthV t) w (by omega) hbb (fun w' l => refSize_n bb off _ c t w' (l.cell hc0) ht h4 (by omega)) (by omega) (by omega) (by omega) (by unfold takeV; rw [readV_n t r h4, if_pos hw])
      · have hrd : readV (t :: r) = some (t, sgn (widthV t) (numH (r.take (widthV t))), [], 1 + widthV t) := by rw [readV_n t r h4, if_neg hw]
        have hq : Has w (some ⟨bb, off + 1, none⟩) (ints .u8 (r.take (widthV t))) := by
          have := hr1.take (widthV t)
          rwa [ints_take'] at this
        have hql : (r.take (widthV t)).length = widthV t := by rw [List.length_take]; omega
        have hq256 : ∀ x ∈ r.take (widthV t), x < 256 := fun x hx => hr256 x (List.mem_of_mem_take hx)
        have hul := numH_lt' _ hq256 _ hql
        by_cases h1 : t = 1
        · subst h1
          have e : widthV ((1 : Nat) : Int) = 2 := rfl
          rw [e] at hw hrd hq hql hq256 hul
          obtain ⟨u, hu⟩ : ∃ u, u = numH (r.take 2) := ⟨_, rfl⟩
          rw [← hu] at hrd hul
          simp only [Nat.reduceMul, Nat.reducePow] at hul
          by_cases h32 : u ≤ 32767
          · have es : sgn 2 u = (u : Int) := by unfold sgn; rw [if_neg (by decide)]; split <;> omega
            rw [es] at hrd
            exact refTake_small bb off (r.length + 1) c (r.take 2) (1 :: r) w hb hcap hc hbb hc0 u (by omega) hql hq hq256 hu h32 fun ok hok => takeV_if h256 hrd ok hok
          · have es : sgn 2 u = (u : Int) - 65536 := by unfold sgn; rw [if_neg (by decide)]; split <;> omega
            rw [es] at hrd
            exact refTake_smalln bb off (r.length + 1) c (r.take 2) (1 :: r) w hb hcap hc hbb hc0 u (by omega) hql hq hq256 hu (by omega) hul fun ok hok => takeV_if h256 hrd ok hok
        · by_cases h2 : t = 2
          · subst h2
            have e : widthV ((2 : Nat) : Int) = 8 := rfl
            rw [e] at hw hrd hq hql hq256 hul
            obtain ⟨u, hu⟩ : ∃ u, u = numH (r.take 8) := ⟨_, rfl⟩
            rw [← hu] at hrd hul
            simp only [Nat.reduceMul, Nat.reducePow] at hul
            have es : sgn 8 u = wrap64 (u : Int) := by unfold sgn wrap64; rw [if_neg (by decide)]; split <;> omega
            rw [es] at hrd
            exact refTake_int bb off (r.length + 1) c (r.take 8) (2 :: r) w hb hcap hc hbb hc0 u (by omega) hql hq hq256 hu hul fun ok hok => takeV_if h256 hrd ok hok
          · by_cases h3 : t = 3
            · subst h3
              have e : widthV ((3 : Nat) : Int) = 1 := rfl
              rw [e] at hw hrd
              match r, hw, hrd, hcl, h256, hb, hcap with
              | [], hw, _, _, _, _, _ => exact absurd (by simp) hw
              | x :: q, hw, hrd, hcl, h256, hb, hcap =>
                have hc1 : w.cell? ⟨bb, off + 1, none⟩ = some (.int .u8 (x : Int)) := hcl 1 _ rfl
                have hx : x < 256 := h256 x (by simp)
                have en : numH ((x :: q).take 1) = x := by
                  show numH [x] = x
                  rw [numH_cons]; simp [numH]
                rw [en] at hrd
                refine refTake_bool bb off ((x :: q).length + 1) c [] (3 :: x :: q) w hb hcap hc hbb hc0 x (by simp) hc1 hx fun ok hok => ?_
                by_cases hx1 : x < 128
                · have es : sgn 1 x = (x : Int) := by unfold sgn; rw [if_neg (by decide)]; split <;> omega
                  rw [es] at hrd
                  exact takeV_if h256 hrd ok hok
                · have es : sgn 1 x = (x : Int) - 256 := by unfold sgn; rw [if_neg (by decide)]; split <;> omega
                  rw [es] at hrd
                  have hof : ok = false := by
                    cases ok
                    · rfl
                    · have := hok.1 rfl; unfold MayV at this; omega
                  subst hof
                  exact takeV_not h256 hrd (by unfold MayV; omega)
            · have e : widthV (t : Int) = 0 := by unfold widthV; rw [if_neg (by omega), if_neg (by omega), if_neg (by omega)]
              rw [e] at hrd
              have e2 : sgn 0 (numH (r.take 0)) = 0 := rfl
              rw [e2] at hrd
              exact refTake_zero bb off (r.length + 1) c t (t :: r) w hb hcap hc hbb hc0 ht (by omega) (by omega) fun ok hok => by
                rw [e]; exact takeV_if h256 hrd ok hok
end Go.Proofs.YtbmlipandjbbbaaDoor
