/- value.read at all bytes; value.Take. -/
import Derived.Test.YtbmlipandjbbbaaDoorValRead
namespace Go.Proofs.YtbmlipandjbbbaaDoor
open Go.RowKit
set_option linter.unusedVariables false

/-- The four sentinels hold pointers. -/
def Sn (w : World) : Prop := ∃ a0 a2 a3 a4, Sents w w.heap.size a0 a2 a3 a4
theorem Sn.later {w w' : World} (h : Sn w) (l : Later w w') : Sn w' := by
  obtain ⟨a0, a2, a3, a4, h⟩ := h
  exact ⟨a0, a2, a3, a4, (h.below l).more l.size⟩

theorem ints_drop (k : IntKind) (l : List Nat) (j : Nat) : (ints k l).drop j = ints k (l.drop j) := by simp [ints, List.map_drop]
theorem ints_take' (k : IntKind) (l : List Nat) (j : Nat) : (ints k l).take j = ints k (l.take j) := by simp [ints, List.map_take]

/-- What read tells. -/
def RV (a : Addr) (b : List Nat) (w : World) (e : Ending) (w' : World) : Prop :=
  (readV b = none ∧ ShortPost a w e w') ∨ ∃ t i l n, readV b = some (t, i, l, n) ∧ ReadsPost t i l n w e w'

theorem valRead_any (A : Option Addr) (c : Nat) (b : List Nat) (a0 a2 a3 a4 : Addr) (w : World) (hs : Sents w w.heap.size a0 a2 a3 a4) (hr : Has w A (ints .u8 b)) (h256 : ∀ x ∈ b, x < 256) (hb : b.length ≤ 1000000) (hcap : b.length ≤ c) (hc : c ≤ 9223372036854775807) :
    Calls Tryd.prog 33 #[.slice A b.length c] w (RV a0 b w) := by
  have hg := hs.lt 0 (by simp)
  have hsh := hs.short
  match b, hr, h256, hb, hcap with
  | [], hr, h256, hb, hcap => exact (valRead_nil A c a0 w hg hsh).mono fun e w' h => .inl ⟨rfl, h⟩
  | t :: r, hr, h256, hb, hcap =>
    obtain ⟨bb, off, rfl, hcl⟩ := hr.all (by simp [ints])
    have hc0 : w.cell? ⟨bb, off, none⟩ = some (.int .u8 (t : Int)) := hcl 0 _ rfl
    have hbb := block_lt_of_cell hc0
    have hl : (t :: r).length = r.length + 1 := rfl
    rw [hl] at hb hcap ⊢
    have hr1 : Has w (some ⟨bb, off + 1, none⟩) (ints .u8 r) := by
      have := hr.drop 1
      rwa [ints_drop] at this
    by_cases h4 : t = 4
    · subst h4
      match r, hr1, hcl, h256, hb, hcap with
      | [], hr1, hcl, h256, hb, hcap =>
        refine (valRead_text bb off 1 c w hbb (by omega) (by omega) hc0 (fun t i s k er w' => (∃ pb, k = 0 ∧ er = .iface 72 (.pointer (some ⟨pb, 0, none⟩)) ∧ w.heap.size < pb ∧ CellIs w' ⟨pb, 0 + 2, none⟩ (.iface 86 (.pointer (some a0))))) ?_).mono ?_
        · rintro W1 hW
          have lW : Later w W1 := hW ▸ ((Later.refl w).alloc _).alloc _
          have zW : w.heap.size < W1.heap.size := by rw [hW]; simp; omega
          refine (readText_nil _ c a0 W1 (Nat.lt_of_lt_of_le hg lW.size) (lW.cell hsh)).mono ?_
          rintro e w' ⟨t, i, s, pb, rfl, hpb, hcell, l⟩
          exact ⟨t, i, 0, s, _, rfl, l, pb, rfl, rfl, by omega, hcell⟩
        · rintro e w3 ⟨t, i, k, s, er, w2, rfl, ⟨pb, rfl, rfl, hpb, hcell⟩, l, hfar⟩
          exact .inl ⟨rfl, t, i, s, pb, rfl, by omega, (World.cell?_of_block (w := w2) (hfar pb hpb)).trans hcell, l⟩
      | x :: q, hr1, hcl, h256, hb, hcap =>
        have hc1 : w.cell? ⟨bb, off + 1, none⟩ = some (.int .u8 (x : Int)) := hcl 1 _ rfl
        have hx : x < 256 := h256 x (by simp)
        have hl2 : (x :: q).length + 1 = q.length + 2 := rfl
        rw [hl2] at hb hcap ⊢
        by_cases hxq : x ≤ q.length
        · refine (valRead_text bb off (q.length + 2) c w hbb (by omega) (by omega) hc0 (fun t i s k er w' => t = 4 ∧ i = 0 ∧ k = ((x + 2 : Nat) : Int) ∧ s = bstr (q.take x) ∧ er = .nilIface) ?_).mono ?_
          · rintro W1 hW
            have lW : Later w W1 := hW ▸ ((Later.refl w).alloc _).alloc _
            have hq : Has w (some ⟨bb, off + 2, none⟩) (ints .u8 (q.take x)) := by
              have := (hr1.drop 1).take x
              rwa [ints_drop, ints_take'] at this
            refine (readText_yes bb off (q.length + 2) c x W1 (Nat.lt_of_lt_of_le hbb lW.size) (lW.cell hc1) hx (by omega) (by omega) hcap hc (by omega) (q.take x) (by rw [List.length_take]; omega) (hq.later lW)).mono ?_
            rintro e w' ⟨rfl, l⟩
            exact ⟨4, 0, _, _, _, rfl, l, rfl, rfl, rfl, rfl, rfl⟩
          · rintro e w3 ⟨t, i, k, s, er, w2, rfl, ⟨rfl, rfl, rfl, rfl, rfl⟩, l, hfar⟩
            exact .inr ⟨4, 0, q.take x, x + 2, by rw [readV_4, if_pos hxq], rfl, l⟩
        · refine (valRead_text bb off (q.length + 2) c w hbb (by omega) (by omega) hc0 (fun t i s k er w' => (∃ pb, k = 0 ∧ er = .iface 72 (.pointer (some ⟨pb, 0, none⟩)) ∧ w.heap.size < pb ∧ CellIs w' ⟨pb, 0 + 2, none⟩ (.iface 86 (.pointer (some a0))))) ?_).mono ?_
          · rintro W1 hW
            have lW : Later w W1 := hW ▸ ((Later.refl w).alloc _).alloc _
            have zW : w.heap.size < W1.heap.size := by rw [hW]; simp; omega
            refine (readText_no bb off (q.length + 2) c x a0 W1 (Nat.lt_of_lt_of_le hg lW.size) (lW.cell hsh) (Nat.lt_of_lt_of_le hbb lW.size) (lW.cell hc1) hx (by omega) (by omega) (by omega)).mono ?_
            rintro e w' ⟨t, i, s, pb, rfl, hpb, hcell, l⟩
            exact ⟨t, i, 0, s, _, rfl, l, pb, rfl, rfl, by omega, hcell⟩
          · rintro e w3 ⟨t, i, k, s, er, w2, rfl, ⟨pb, rfl, rfl, hpb, hcell⟩, l, hfar⟩
            exact .inl ⟨by rw [readV_4, if_neg hxq], t, i, s, pb, rfl, by omega, (World.cell?_of_block (w := w2) (hfar pb hpb)).trans hcell, l⟩
    · have ht : t < 256 := h256 t (by simp)
      by_cases hw : r.length < widthV t
      · refine (valRead_cut t _ rfl bb off (r.length + 1) c a0 w hg hsh hbb (by omega) hb hc0 ht h4 (by omega)).mono fun e w' h => .inl ⟨by rw [readV_n t r h4, if_pos hw], h⟩
      · refine (valRead_num t _ rfl bb off (r.length + 1) c w hbb (by omega) hb hcap hc hc0 ht h4 (by omega) (r.take (widthV t)) (by rw [List.length_take]; omega) (fun x hx => h256 x (List.mem_cons_of_mem _ (List.mem_of_mem_take hx))) ?_).mono fun e w' h => .inr ⟨t, _, [], _, by rw [readV_n t r h4, if_neg hw], h⟩
        have := hr1.take (widthV t)
        rwa [ints_take'] at this
end Go.Proofs.YtbmlipandjbbbaaDoor
