/- The walk of agg.groups. -/
import Derived.Test.YtiacemlloaenoaaDoorAggS
import Derived.Test.YtiacemlloaenoaaDoorAggT
import Derived.Test.YtiacemlloaenoaaDoorBatR
namespace Go.Proofs.YtiacemlloaenoaaDoor
open Go.RowKit
set_option linter.unusedVariables false

/-- Those alike together, as they stand. -/
def runsK (cf : Nat → Nat → Int) (S : List Nat) : Nat → List (List Nat)
  | 0 => []
  | k + 1 => addLast (if k = 0 ∨ cf (S.getD (k - 1) 0) (S.getD k 0) ≠ 0 then runsK cf S k ++ [[]] else runsK cf S k) (S.getD k 0)
theorem addLast_app (R : List (List Nat)) (l : List Nat) (p : Nat) : addLast (R ++ [l]) p = R ++ [l ++ [p]] := by
  unfold addLast
  rw [List.length_append, List.length_singleton, Nat.add_sub_cancel, List.getD_eq_getElem?_getD, List.getElem?_append_right (Nat.le_refl _), Nat.sub_self]
  rw [List.set_append_right _ _ (Nat.le_refl _), Nat.sub_self]; rfl
theorem runsK_new {cf : Nat → Nat → Int} {S : List Nat} {k : Nat} (h : k = 0 ∨ cf (S.getD (k - 1) 0) (S.getD k 0) ≠ 0) : runsK cf S (k + 1) = runsK cf S k ++ [[S.getD k 0]] := by
  show addLast (if _ then _ else _) _ = _
  rw [if_pos h, addLast_app]; rfl
theorem runsK_old {cf : Nat → Nat → Int} {S : List Nat} {k : Nat} (h : ¬ (k = 0 ∨ cf (S.getD (k - 1) 0) (S.getD k 0) ≠ 0)) : runsK cf S (k + 1) = addLast (runsK cf S k) (S.getD k 0) := by
  show addLast (if _ then _ else _) _ = _
  rw [if_neg h]
theorem runsK_len (cf : Nat → Nat → Int) (S : List Nat) : ∀ k, (runsK cf S k).length ≤ k ∧ (1 ≤ k → 1 ≤ (runsK cf S k).length)
  | 0 => ⟨Nat.le_refl _, fun h => by omega⟩
  | k + 1 => by
    have ih := runsK_len cf S k
    by_cases h : k = 0 ∨ cf (S.getD (k - 1) 0) (S.getD k 0) ≠ 0
    · rw [runsK_new h, List.length_append, List.length_singleton]; omega
    · rw [runsK_old h, addLast_len]
      have : 1 ≤ k := by
        rcases Nat.eq_zero_or_pos k with h0 | h0
        · exact absurd (.inl h0) h
        · exact h0
      have := ih.2 this
      omega
theorem runsK_mem (cf : Nat → Nat → Int) (S : List Nat) : ∀ k, k ≤ S.length → ∀ g ∈ runsK cf S k, g ≠ [] ∧ ∀ p ∈ g, p ∈ S
  | 0, _, g, hg => by simp [runsK] at hg
  | k + 1, hk, g, hg => by
    have ih := runsK_mem cf S k (by omega)
    have hS : S.getD k 0 ∈ S := by
      rw [List.getD_eq_getElem?_getD, List.getElem?_eq_getElem (show k < S.length by omega)]
      exact List.getElem_mem _
    by_cases h : k = 0 ∨ cf (S.getD (k - 1) 0) (S.getD k 0) ≠ 0
    · rw [runsK_new h] at hg
      rcases List.mem_append.1 hg with hg | hg
      · exact ih g hg
      · rw [List.mem_singleton] at hg
        subst hg
        exact ⟨by simp, fun p hp => by rw [List.mem_singleton] at hp; subst hp; exact hS⟩
    · rw [runsK_old h] at hg
      unfold addLast at hg
      rcases List.mem_or_eq_of_mem_set hg with hg | hg
      · exact ih g hg
      · subst hg
        refine ⟨by simp, fun p hp => ?_⟩
        rcases List.mem_append.1 hp with hp | hp
        · have hl : 1 ≤ (runsK cf S k).length := (runsK_len cf S k).2 (by
            rcases Nat.eq_zero_or_pos k with h0 | h0
            · exact absurd (.inl h0) h
            · exact h0)
          rw [List.getD_eq_getElem?_getD, List.getElem?_eq_getElem (show (runsK cf S k).length - 1 < (runsK cf S k).length by omega)] at hp
          exact (ih _ (List.getElem_mem _)).2 p hp
        · rw [List.mem_singleton] at hp; subst hp; exact hS
/-- The groups. -/
def GroupsOf (cols : List (List Val3)) (bys : List Int) (N : Nat) (R : List (List Nat)) : Prop :=
  (bys = [] ∧ R = [List.range N]) ∨ (bys ≠ [] ∧ ∃ S, IsS (cmpBy cols bys) N S ∧ R = runsK (cmpBy cols bys) S N)
def GroupsP (cols : List (List Val3)) (bys : List Int) (w : World) (e : Ending) (w' : World) : Prop :=
  ∃ A c R, e = .returned (.slice A R.length c) ∧ GroupsOf cols bys (heightC cols) R ∧ GrAt w' A R ∧ Later w w'
theorem GroupsOf.mem {cols : List (List Val3)} {bys : List Int} {N : Nat} {R : List (List Nat)} (h : GroupsOf cols bys N R) : (∀ g ∈ R, (bys ≠ [] → g ≠ []) ∧ ∀ p ∈ g, p < N) ∧ R.length ≤ max 1 N := by
  rcases h with ⟨h1, h2⟩ | ⟨h1, S, hS, h2⟩
  · subst h2
    refine ⟨fun g hg => ?_, by simp; omega⟩
    rw [List.mem_singleton] at hg
    subst hg
    exact ⟨fun h => absurd h1 h, fun p hp => List.mem_range.1 hp⟩
  · subst h2
    have hlen : S.length = N := by rw [hS.1.length_eq, List.length_range]
    refine ⟨fun g hg => ?_, by have := (runsK_len (cmpBy cols bys) S N).1; omega⟩
    obtain ⟨h3, h4⟩ := runsK_mem _ S N (by omega) g hg
    exact ⟨fun _ => h3, fun p hp => List.mem_range.1 (hS.1.mem_iff.1 (h4 p hp))⟩
theorem GS.last1 {base : Nat} {w : World} {A : Option Addr} {m c : Nat} {R : List (List Nat)} (h : GS base w A (m + 1) c R) :
    ∃ tb La Ln Lc, A = some ⟨tb, 0, none⟩ ∧ Ln = (R.getD (R.length - 1) []).length ∧ w.cell? ⟨tb, m, none⟩ = some (.slice La Ln Lc) ∧ w.frozen? ⟨tb, m, none⟩ = false ∧ base ≤ tb ∧ m + 1 ≤ c ∧ w.ownsRow base 3 1 (.slice La Ln Lc) Ln (pin (R.getD (R.length - 1) [])) ∧
      ∀ w1 w2 A' c' (p : Nat), Later w w1 → w2.ownsRow base 3 1 (.slice A' (Ln + 1) c') (Ln + 1) (pin (R.getD (R.length - 1) []) ++ [.int .i64 p]) → w1.grownBy w2 (Value.slice La Ln Lc).ownBlock →
        ((Value.slice A' (Ln + 1) c').ownBlock = (Value.slice La Ln Lc).ownBlock ∨ (Value.slice A' (Ln + 1) c').ownBlock = some w1.heap.size) → (A' = none → c' = 0) →
        w2.cell? ⟨tb, m, none⟩ = some (.slice La Ln Lc) ∧ w2.frozen? ⟨tb, m, none⟩ = false ∧ GS base (w2.setCell ⟨tb, m, none⟩ (.slice A' (Ln + 1) c')) A (m + 1) c (addLast R p) := by
  have := h.last (by omega)
  rwa [Nat.add_sub_cancel] at this
theorem getD_at {S : List Nat} {k : Nat} (h : k < S.length) : S.getD k 0 = S[k] := by
  rw [List.getD_eq_getElem?_getD, List.getElem?_eq_getElem h]; rfl
theorem runsK_row_le (cf : Nat → Nat → Int) (S : List Nat) : ∀ k, ∀ g ∈ runsK cf S k, g.length ≤ k
  | 0, g, hg => by simp [runsK] at hg
  | k + 1, g, hg => by
    have ih := runsK_row_le cf S k
    by_cases h : k = 0 ∨ cf (S.getD (k - 1) 0) (S.getD k 0) ≠ 0
    · rw [runsK_new h] at hg
      rcases List.mem_append.1 hg with hg | hg
      · have := ih g hg; omega
      · rw [List.mem_singleton] at hg; subst hg; simp
    · rw [runsK_old h] at hg
      unfold addLast at hg
      rcases List.mem_or_eq_of_mem_set hg with hg | hg
      · have := ih g hg; omega
      · subst hg
        rw [List.length_append, List.length_singleton]
        have : ((runsK cf S k).getD ((runsK cf S k).length - 1) []).length ≤ k := by
          rw [List.getD_eq_getElem?_getD]
          by_cases hl : (runsK cf S k).length - 1 < (runsK cf S k).length
          · rw [List.getElem?_eq_getElem hl]; exact ih _ (List.getElem_mem hl)
          · rw [List.getElem?_eq_none (by omega)]; simp
        omega
theorem last_le {R : List (List Nat)} {b : Nat} (h : ∀ g ∈ R, g.length ≤ b) : (R.getD (R.length - 1) []).length ≤ b := by
  rw [List.getD_eq_getElem?_getD]
  by_cases hl : R.length - 1 < R.length
  · rw [List.getElem?_eq_getElem hl]; exact h _ (List.getElem_mem hl)
  · rw [List.getElem?_eq_none (by omega)]; simp
/-- Where the places' loop stands. -/
def PlI (N B : Nat) (w : World) (pv iv : Value) (wr : World) : Prop :=
  ∃ (k : Nat) (P : Option Addr) (pc : Nat), pv = .slice P k pc ∧ iv = .int .i64 k ∧ k ≤ N ∧ wr.ownsRow B 3 1 (.slice P k pc) k (pin (List.range k)) ∧ (P = none → pc = 0) ∧ (k = 0 → P = none) ∧ Later w wr
theorem PlI.mk {N B : Nat} {w wr : World} (y : Int) (k : Nat) (P : Option Addr) (pc : Nat) (hy : y = (k : Int)) (hk : k ≤ N) (ho : wr.ownsRow B 3 1 (.slice P k pc) k (pin (List.range k))) (hn : P = none → pc = 0) (hz : k = 0 → P = none) (L : Later w wr) : PlI N B w (.slice P k pc) (.int .i64 y) wr := by
  subst hy; exact ⟨k, P, pc, rfl, rfl, hk, ho, hn, hz, L⟩
/-- Where the runs' loop stands. -/
def RuI (cf : Nat → Nat → Int) (S : List Nat) (N : Nat) (w : World) (lv iv : Value) (wr : World) : Prop :=
  ∃ (k : Nat) (A : Option Addr) (n c : Nat), lv = .slice A n c ∧ iv = .int .i64 k ∧ k ≤ N ∧ GS w.heap.size wr A n c (runsK cf S k) ∧ Later w wr
theorem RuI.mk {cf : Nat → Nat → Int} {S : List Nat} {N : Nat} {w wr : World} (y : Int) (k : Nat) (A : Option Addr) (n c : Nat) (hy : y = (k : Int)) (hk : k ≤ N) (hg : GS w.heap.size wr A n c (runsK cf S k)) (L : Later w wr) : RuI cf S N w (.slice A n c) (.int .i64 y) wr := by
  subst hy; exact ⟨k, A, n, c, rfl, rfl, hk, hg, L⟩
set_option maxRecDepth 100000 in
theorem ins0_any (fv : Value) (w : World) : Calls Tryd.prog 40 #[.slice none 0 0, .int .i64 0, .int .i64 0, fv] w fun e w' => e = .returned (.tuple #[]) ∧ w = w' := by
  go_enter Tryd.func40, Tryd.ntmps40
  go_wp2_with fail
  refine wp_loop_rounds 1 ?_
  rw [rounds_succ]
  go_wp2_with fail
  (try simp only [Exit.inBlock, Exit.then])
  go_end0
  exact ⟨rfl, rfl⟩
set_option maxRecDepth 100000 in
theorem stable0_any (fv : Value) (w : World) : Calls Tryd.prog 35 #[.slice none 0 0, .int .i64 0, fv] w fun e w' => e = .returned (.tuple #[]) ∧ w = w' := by
  have HI := Lib.hid (ins0_any fv w)
  go_enter Tryd.func35, Tryd.ntmps35
  go_wp2_with fail
  refine wp_loop_rounds 1 ?_
  rw [rounds_succ]
  go_wp2_with fail
  refine HI.out.mono ?_
  rintro e w' ⟨rfl, rfl⟩
  clear HI
  go_wp2_with fail
  refine wp_loop_rounds 1 ?_
  rw [rounds_succ]
  go_wp2_with fail
  (try simp only [Exit.inBlock, Exit.then])
  go_end0
  exact ⟨rfl, rfl⟩
set_option maxRecDepth 100000 in
theorem sort0_any (fv : Value) (w : World) : Calls Tryd.prog 25 #[.slice none 0 0, fv] w fun e w' => e = .returned (.tuple #[]) ∧ w = w' := by
  have HI := Lib.hid (stable0_any fv w)
  go_enter Tryd.func25, Tryd.ntmps25
  go_wp2_with fail
  refine HI.out.mono ?_
  rintro e w' ⟨rfl, rfl⟩
  clear HI
  go_wp2_with fail
  (try simp only [Exit.inBlock, Exit.then])
  go_end0
  exact ⟨rfl, rfl⟩
/-- What the sort leaves. -/
def SortedP (cf : Nat → Nat → Int) (N B : Nat) (A : Option Addr) (w w' : World) : Prop := ∃ S, IsS cf N S ∧ Has w' A (pin S) ∧ Below B w w'
theorem sortG_any (cols : List (List Val3)) (bys : List Int) (N B gb gc : Nat) (P : Option Addr) (pc : Nat) (w : World) (hN : N ≤ 20) (hBw : B ≤ w.heap.size) (ho : w.ownsRow B 3 1 (.slice P N pc) N (pin (List.range N))) (hnil : P = none → pc = 0) (hz : N = 0 → P = none)
    (hc : ∀ W, Below B w W → ∀ x y : Nat, x < N → y < N → Calls Tryd.prog 23 #[.int .i64 x, .int .i64 y, .pointer (some ⟨gb, 0, none⟩), .pointer (some ⟨gc, 0, none⟩)] W (GrowsInt (cmpBy cols bys x y) W)) :
    Calls Tryd.prog 25 #[.slice P N pc, .func (.func 23) #[] #[.pointer (some ⟨gb, 0, none⟩), .pointer (some ⟨gc, 0, none⟩)]] w
      fun e w' => e = .returned (.tuple #[]) ∧ SortedP (cmpBy cols bys) N B P w w' := by
  rcases N with _ | M
  · obtain rfl := hz rfl
    obtain rfl := hnil rfl
    refine (sort0_any _ w).mono ?_
    rintro e w' ⟨rfl, rfl⟩
    exact ⟨rfl, [], ⟨by simp, List.Pairwise.nil⟩, .inl rfl, Below.refl _ _⟩
  · have hg : ∃ g, P = some ⟨g, 0, none⟩ := by
      rcases ho.2 with ⟨hv, h0⟩ | ⟨g, cap, cur, hv, _⟩
      · omega
      · injection hv with e; exact ⟨g, e⟩
    obtain ⟨g, rfl⟩ := hg
    have hgl := ho.lt g rfl
    have hs := sorted_is cols bys M
    have hsz : (Go.Sort.insertionSort (ltOf fun x y : Fin (M + 1) => cmpBy cols bys x.val y.val) (idF M) 0 (M + 1)).size = M + 1 := by
      have := hs.1.length_eq
      rwa [List.length_map, Array.length_toList, List.length_range] at this
    have hh : Go.Sort.Holds (encF M) w g 0 (idF M) := fun j hj => by
      rw [idF_size] at hj
      have h1 := ho.cellAt j (by omega)
      rw [Nat.zero_add, idF_get M j hj]
      refine ⟨?_, ho.frozenAt _⟩
      rw [h1]
      simp [pin, encF, hj]
    refine (sortF_any M g pc gb gc B _ w hN hgl.1 hgl.2 hh hsz fun W hW x y => hc W hW x.val y.val x.isLt y.isLt).mono ?_
    rintro e w' ⟨rfl, hSW⟩
    refine ⟨rfl, _, hs, ?_, ?_⟩
    · have h1 := hSW.holds hgl.2 hh (by rw [hsz, idF_size])
      obtain ⟨T, hT⟩ : ∃ T, Go.Sort.insertionSort (ltOf fun x y : Fin (M + 1) => cmpBy cols bys x.val y.val) (idF M) 0 (M + 1) = T := ⟨_, rfl⟩
      rw [hT] at h1 hsz ⊢
      refine .inr ⟨g, 0, rfl, Nat.lt_of_lt_of_le hgl.2 hSW.le, fun k v hv => ?_⟩
      have hk : k < T.size := by
        have := (List.getElem?_eq_some_iff.1 hv).1
        rw [pin_len, List.length_map, Array.length_toList] at this
        exact this
      have h2 := (h1 k hk).1
      rw [getElem!_pos T k hk, Nat.zero_add] at h2
      rw [Nat.zero_add, h2]
      rw [← hv]
      simp [pin, encF, hk]
    · obtain ⟨m, os, rfl⟩ := hSW
      exact below_sw (encF M) w B g m _ os hgl.1 hgl.2

set_option maxRecDepth 100000 in
set_option maxHeartbeats 8000000 in
theorem groups_any (A Bp : Option Addr) (n c bn bc : Nat) (zs : List SlV) (bys : List Int) (w : World) (hn : n = zs.length) (hl : n ≤ 1000) (hbn : bn = bys.length) (hbl : bn ≤ 1000) (hr : RowsAt w A zs) (hb : Has w Bp (iin bys)) (hlen : ∀ s ∈ zs, s.l.length ≤ 1000) (h20 : heightC (colsOf zs) ≤ 20)
    (hby : ∀ c ∈ bys, 0 ≤ c ∧ c < (zs.length : Int)) :
    Calls Tryd.prog 16 #[.slice A n c, .slice Bp bn bc] w (GroupsP (colsOf zs) bys w) := by
  subst hn hbn
  obtain ⟨gc, hgc⟩ : ∃ g, w.heap.size = g := ⟨_, rfl⟩
  obtain ⟨W2, hW2⟩ : ∃ x, (w.alloc (.cells #[.slice A zs.length c] 35)).alloc (.cells #[.slice Bp bys.length bc] 30) = x := ⟨_, rfl⟩
  have L2 : Later w W2 := hW2 ▸ (Later.new w _).alloc _
  have B0 : Blk W2 gc #[.slice A zs.length c] 35 := hW2 ▸ (Blk.new w _ _ _ hgc.symm).later (Later.new _ _)
  have B1 : Blk W2 (gc + 1) #[.slice Bp bys.length bc] 30 := hW2 ▸ Blk.new _ _ _ _ (by simp [hgc])
  have HL2 := Lib.hid L2
  have HRR := Lib.hid (hr.later L2)
  have HBB := Lib.hid (hb.later L2)
  have HLEN := Lib.hid (show ∀ s ∈ zs, heightC (colsOf zs) ≤ s.l.length from fun s hs => heightC_le (List.mem_map.2 ⟨s, hs, rfl⟩))
  have b0 := B0.cell 0 _ rfl
  have b1 := B1.cell 0 _ rfl
  have HB0 := Lib.hid b0
  have HB1 := Lib.hid b1
  have HROWS := Lib.hid (batchRows_any A zs.length c zs W2 rfl hl HRR.out hlen)
  obtain ⟨N, hN⟩ : ∃ N, heightC (colsOf zs) = N := ⟨_, rfl⟩
  have HRL := Lib.hid (show (rowsC (colsOf zs)).length = N from by unfold rowsC; rw [List.length_map, List.length_range, hN])
  have HCMP := Lib.hid (fun (W : World) (l : Later W2 W) (x y : Nat) (hx : x < N) (hy : y < N) => groupsCmp_any (gc + 1) gc A Bp zs.length c bys.length bc zs bys x y W (l.cell b1) (l.cell b0) rfl hl rfl hbl (HBB.out.later l) (HRR.out.later l) hby (fun s hs => ⟨Nat.lt_of_lt_of_le (by rw [hN]; exact hx) (HLEN.out s hs), Nat.lt_of_lt_of_le (by rw [hN]; exact hy) (HLEN.out s hs)⟩))
  have HN := Lib.hid hN
  rw [hN] at h20
  clear B0 B1 L2 hr hb hlen hby hN b1
  go_enter Tryd.func16, Tryd.ntmps16
  go_wp2_with fail
  refine HROWS.out.mono ?_
  rintro e w3 ⟨RA, rc, rs, rfl, hrs, _, _, _, _, l3⟩
  have HRSN := Lib.hid (show rs.length = N from by rw [← HRL.out, ← hrs, List.length_map])
  generalize rs.length = rn at HRSN ⊢
  obtain rfl := HRSN.out
  have HL3 := Lib.hid l3
  have HI0 := Lib.hid (PlI.mk (N := rn) (B := W2.heap.size) (w := W2) (wr := w3) 0 0 none 0 rfl (Nat.zero_le _) (ownG_nil _ _ _ _) (fun _ => rfl) (fun _ => rfl) l3)
  clear hrs l3 HROWS HRL HRSN b0
  go_wp2_with fail
  go_loopw [5, 14] (fun pv iv wr => PlI rn W2.heap.size W2 pv iv wr) (fun _ i _ => rn - (intOf i).toNat)
  case atStart => exact HI0.out
  case round =>
    obtain ⟨k, P, pc, rfl, rfl, hk, hown, hnil, hz, lat⟩ := hrel
    have HOWN := Lib.hid hown
    have HNIL := Lib.hid hnil
    have HZ := Lib.hid hz
    have HLAT := Lib.hid lat
    clear HI0 hown hnil hz
    by_cases hlt : k < rn
    · have HBK := Lib.hid (fun (wz : World) => Blk.new wz #[.int .i64 k] 3 wz.heap.size rfl)
      have HOB := Lib.hid (fun (o : Obj) => own_later HOWN.out (Later.new wr o))
      have hs1 := lat.size
      clear lat
      go_wp2_with (at_builtin; refine wpList_append_g _ rfl (.tmp 17) (.tmp 19) 30 rfl W2.heap.size 3 _ 1 8 Tryd.underlying30 info_in rfl (by decide) _ k _ rfl (HOB.out _) _ 1 1 [.int .i64 k] rfl (HBK.out wr).has rfl (by intro h; cases h) (by intro u hu; rw [List.mem_singleton] at hu; subst hu; rfl) (by unfold maxLen; omega) (by omega) (by simp; omega) ?_; rintro A' c' wq hO _ hbel hn2; have HO2 := Lib.hid hO; have HN2 := Lib.hid hn2; have HL4 := Lib.hid (Later.of ((HLAT.out.alloc _).below.trans hbel)); clear hO hn2 hbel)
      go_roundw
      case rel =>
        refine PlI.mk _ (k + 1) _ _ ?_ hlt ?_ HN2.out (fun h => by omega) HL4.out
        · omega
        · rw [List.range_succ, pin_append]; exact HO2.out
      case measure => simp [intOf]; omega
    · obtain rfl : k = rn := by omega
      have b1 := lat.cell HB1.out
      have hs1 := lat.size
      by_cases hby0 : bys.length = 0
      · have he : ((bys.length : Int) == 0) = true := by simpa using hby0
        have HG := Lib.hid (show GroupsOf (colsOf zs) bys k [List.range k] from .inl ⟨List.eq_nil_of_length_eq_zero hby0, rfl⟩)
        have HPK := Lib.hid (Has.ownG HOWN.out)
        have HPB := Lib.hid (fun (wz : World) => Blk.new wz #[.slice P k pc] 30 wz.heap.size rfl)
        have HLA := Lib.hid (fun (o : Obj) => Later.new wr o)
        clear hby0 lat
        go_wp2_with fail
        go_ret
        refine ⟨_, _, [List.range k], rfl, by rw [HN.out]; exact HG.out, GrAt.one (l := List.range k) (c := pc) (t := 30) ?_ (HPK.out.later (HLA.out _)), (HL2.out.trans HLAT.out).trans (HLA.out _)⟩
        rw [List.length_range]
        exact HPB.out wr
      · have he : ((bys.length : Int) == 0) = false := by simp; intro e; exact hby0 (by rw [e]; rfl)
        have HNE := Lib.hid (show bys ≠ [] from fun e => hby0 (by rw [e]; rfl))
        have HSORT := Lib.hid (sortG_any (colsOf zs) bys k W2.heap.size (gc + 1) gc P pc wr h20 hs1 HOWN.out HNIL.out HZ.out (fun W hW x y hx hy => HCMP.out W (Later.of (lat.below.trans hW)) x y hx hy))
        have hbe := lat.below
        clear hby0 lat HOWN HNIL HZ hlt hk
        go_wp2_with fail
        refine HSORT.out.mono ?_
        rintro e w5 ⟨rfl, S, hS, hHS, hbel⟩
        have HL5 := Lib.hid (Later.of (hbe.trans hbel))
        have HIS := Lib.hid hS
        have HHS := Lib.hid hHS
        have HSL := Lib.hid (show S.length = k from by rw [hS.1.length_eq, List.length_range])
        have HSM := Lib.hid (show ∀ j (h : j < S.length), S[j] < k from fun j h => List.mem_range.1 (hS.1.mem_iff.1 (List.getElem_mem h)))
        obtain ⟨cf, hcf⟩ : ∃ f, cmpBy (colsOf zs) bys = f := ⟨_, rfl⟩
        have HCF := Lib.hid hcf
        rw [hcf] at HCMP HIS
        have HIR := Lib.hid (RuI.mk (cf := cf) (S := S) (N := k) (w := w5) (wr := w5) 0 0 none 0 0 rfl (Nat.zero_le _) (GS.nil_ _ _) (Later.refl _))
        clear hbe hbel hS hHS hcf HSORT HLAT HRR HBB HLEN b1
        go_wp2_with fail
        go_loopw [8, 33] (fun lv iv wr => RuI cf S k w5 lv iv wr) (fun _ i _ => k - (intOf i).toNat)
        case atStart => exact HIR.out
        case round =>
          obtain ⟨j, T, n, tc, rfl, rfl, hj, hgs, lat⟩ := hrel
          have HGS := Lib.hid hgs
          have HLC := Lib.hid lat
          have hnl := (runsK_len cf S j).1
          rw [← hgs.len] at hnl
          have hnl2 := (runsK_len cf S j).2
          rw [← hgs.len] at hnl2
          clear hgs HIR
          by_cases hltj : j < k
          · have hjS : j < S.length := by have := HSL.out; omega
            obtain ⟨pb, po, hPA, cj⟩ := (HHS.out.later lat).pin j hjS
            subst hPA
            have hgj := getD_at hjS
            have hpk := HSM.out j hjS
            have HRN := Lib.hid (fun (h : j = 0 ∨ cf (S.getD (j - 1) 0) (S.getD j 0) ≠ 0) => show runsK cf S (j + 1) = addLast (runsK cf S j ++ [[]]) (S.getD j 0) from by
              show addLast (if _ then _ else _) _ = _
              rw [if_pos h])
            have HRO := Lib.hid (fun (h : ¬ (j = 0 ∨ cf (S.getD (j - 1) 0) (S.getD j 0) ≠ 0)) => runsK_old h)
            by_cases hj0 : j = 0
            · have hjt : ((j : Int) == 0) = true := by simpa using hj0
              have HRUN := Lib.hid (HRN.out (.inl hj0))
              rw [hgj] at HRUN
              clear hj0 lat HRN HRO hgj
              generalize S[j] = p at cj HRUN hpk
              have HRB := Lib.hid (show ∀ g ∈ runsK cf S j ++ [[]], g.length ≤ j from fun g hg => by
                rcases List.mem_append.1 hg with hg | hg
                · exact runsK_row_le cf S j g hg
                · rw [List.mem_singleton] at hg; subst hg; simp)
              obtain ⟨xs, hxo, hxa⟩ := (HGS.out.later (Later.new wr (.cells #[.slice none 0 0] 30))).own
              have HOW := Lib.hid hxo
              have HADD := Lib.hid hxa
              have HBK := Lib.hid (fun (wz : World) => Blk.new wz #[.slice none 0 0] 30 wz.heap.size rfl)
              have HSZ1 := Lib.hid HLC.out.size
              clear hxo hxa
              go_wp2_with (first | (at_builtin; refine wpList_append_x _ rfl (.tmp 51) (.tmp 52) 65 rfl w5.heap.size 30 _ 1 24 Tryd.underlying65 info_is rfl (by decide) _ n _ rfl HOW.out _ 0 1 1 [.slice none 0 0] rfl (HBK.out _).has rfl (by intro u hu; rw [List.mem_singleton] at hu; subst hu; rfl) (by unfold maxLen; omega) (by omega) (by have := HSZ1.out; simp; omega) ?_; rintro A' c' wq hO hgr hbel hat hn2; go_loud (have HG2 := Lib.hid (HADD.out _ _ _ hO hgr hat hn2)); go_loud (have HLQ := Lib.hid (Later.of ((HLC.out.alloc _).below.trans hbel))); go_loud (have HSZ2 := Lib.hid HLQ.out.size); go_loud (clear hO hgr hbel hat hn2); go_loud (obtain ⟨tb, La, Ln, Lc, hA', hLn, hcell, hfr, hbt, hcapn, hrow, hput⟩ := HG2.out.last1); go_loud (subst hA'); go_loud (have hLb : Ln ≤ 20 := Nat.le_trans (Nat.le_of_eq hLn) (Nat.le_trans (last_le HRB.out) (by omega))); go_loud (have HROW := Lib.hid (fun (o : Obj) => own_later hrow (Later.new wq o))); go_loud (have HPUT := Lib.hid hput); go_loud (have HBT := Lib.hid hbt); go_loud (have HBP := Lib.hid (fun (wz : World) => Blk.new wz #[.int .i64 p] 3 wz.heap.size rfl)); go_loud (clear hrow hput hLn hbt)) | (at_builtin; go_loud (refine wpList_append_x _ rfl (.tmp 63) (.tmp 65) 30 rfl w5.heap.size 3 _ 1 8 Tryd.underlying30 info_in rfl (by decide) _ Ln _ rfl (HROW.out _) _ 0 1 1 [.int .i64 p] rfl (HBP.out _).has rfl (by intro u hu; rw [List.mem_singleton] at hu; subst hu; rfl) (by unfold maxLen; omega) (by omega) (by have := HSZ2.out; simp; omega) ?_); rintro A2 c2 wz hO hgr hbel hat hn; go_loud (obtain ⟨hcz, hfz, hgz⟩ := HPUT.out _ _ _ _ p (Later.new _ _) hO hgr hat hn); go_loud (have HGZ := Lib.hid hgz); go_loud (have HLZ := Lib.hid ((Later.of ((HLQ.out.alloc _).below.trans hbel)).set_ (p := ⟨tb, n, none⟩) HBT.out (.slice A2 (Ln + 1) c2))); go_loud (clear hO hgr hbel hat hn hgz)))
              go_roundw
              case rel => exact RuI.mk _ (j + 1) _ _ _ (by omega) hltj (by rw [HRUN.out]; exact HGZ.out) HLZ.out
              case measure => simp [intOf]; omega
            · obtain ⟨i, rfl⟩ : ∃ i, j = i + 1 := ⟨j - 1, by omega⟩
              have hiS : i < S.length := by omega
              obtain ⟨pb', po', hPA, ci⟩ := (HHS.out.later lat).pin i hiS
              injection hPA with hPA
              injection hPA with e1 e2
              subst e1 e2
              have hgi := getD_at hiS
              have hpi := HSM.out i hiS
              have hjt : (((i : Int) + 1) == 0) = false := by simp; omega
              rw [Nat.add_sub_cancel, hgj, hgi] at HRN HRO
              have HC := Lib.hid (HCMP.out wr (HL5.out.trans lat) S[i] S[i + 1] hpi hpk)
              obtain ⟨d, hd⟩ : ∃ d, cf S[i] S[i + 1] = d := ⟨_, rfl⟩
              rw [hd] at HC HRN HRO
              generalize S[i + 1] = p at cj HRN HRO hpk HC
              generalize S[i] = p0 at ci hpi HC
              obtain ⟨j, hjj⟩ : ∃ j, j = i + 1 := ⟨_, rfl⟩
              clear hd hgj hgi hj0
              go_wp2_with fail
              refine HC.out.mono ?_
              rintro e wc ⟨rfl, hgr⟩
              have HGS := Lib.hid (HGS.out.later hgr.later)
              have HLC := Lib.hid (lat.trans hgr.later)
              clear HC hgr lat
              by_cases hd0 : d = 0
              · have hdt : (d != 0) = false := by simpa using hd0
                have HRUN := Lib.hid (HRO.out (fun h => h.elim (fun h => by omega) (fun h => h hd0)))
                obtain ⟨m, rfl⟩ : ∃ m, n = m + 1 := ⟨n - 1, by omega⟩
                rw [← hjj] at HRUN HGS hltj hnl
                clear hd0 HRN HRO
                have HRB := Lib.hid (show ∀ g ∈ runsK cf S j, g.length ≤ j from fun g hg => runsK_row_le cf S j g hg)
                have HG2 := HGS
                have HLQ := HLC
                have HSZ2 := Lib.hid HLQ.out.size
                obtain ⟨tb, La, Ln, Lc, hA', hLn, hcell, hfr, hbt, hcapn, hrow, hput⟩ := HG2.out.last1; subst hA'; have hLb : Ln ≤ 20 := Nat.le_trans (Nat.le_of_eq hLn) (Nat.le_trans (last_le HRB.out) (by omega)); have HROW := Lib.hid (fun (o : Obj) => own_later hrow (Later.new wc o)); have HPUT := Lib.hid hput; have HBT := Lib.hid hbt; have HBP := Lib.hid (fun (wz : World) => Blk.new wz #[.int .i64 p] 3 wz.heap.size rfl); clear hrow hput hLn hbt
                go_wp2_with (at_builtin; go_loud (refine wpList_append_x _ rfl (.tmp 63) (.tmp 65) 30 rfl w5.heap.size 3 _ 1 8 Tryd.underlying30 info_in rfl (by decide) _ Ln _ rfl (HROW.out _) _ 0 1 1 [.int .i64 p] rfl (HBP.out _).has rfl (by intro u hu; rw [List.mem_singleton] at hu; subst hu; rfl) (by unfold maxLen; omega) (by omega) (by have := HSZ2.out; simp; omega) ?_); rintro A2 c2 wz hO hgr hbel hat hn; go_loud (obtain ⟨hcz, hfz, hgz⟩ := HPUT.out _ _ _ _ p (Later.new _ _) hO hgr hat hn); go_loud (have HGZ := Lib.hid hgz); go_loud (have HLZ := Lib.hid ((Later.of ((HLQ.out.alloc _).below.trans hbel)).set_ (p := ⟨tb, m, none⟩) HBT.out (.slice A2 (Ln + 1) c2))); go_loud (clear hO hgr hbel hat hn hgz))
                go_roundw
                case rel => exact RuI.mk _ (j + 1) _ _ _ (by omega) hltj (by rw [HRUN.out]; exact HGZ.out) HLZ.out
                case measure => simp [intOf]; omega
              · have hdt : (d != 0) = true := by simpa using hd0
                have HRUN := Lib.hid (HRN.out (.inr hd0))
                rw [← hjj] at HRUN HGS hltj hnl
                clear hd0 HRN HRO
                have HRB := Lib.hid (show ∀ g ∈ runsK cf S j ++ [[]], g.length ≤ j from fun g hg => by
                  rcases List.mem_append.1 hg with hg | hg
                  · exact runsK_row_le cf S j g hg
                  · rw [List.mem_singleton] at hg; subst hg; simp)
                obtain ⟨xs, hxo, hxa⟩ := (HGS.out.later (Later.new wc (.cells #[.slice none 0 0] 30))).own
                have HOW := Lib.hid hxo
                have HADD := Lib.hid hxa
                have HBK := Lib.hid (fun (wz : World) => Blk.new wz #[.slice none 0 0] 30 wz.heap.size rfl)
                have HSZ1 := Lib.hid HLC.out.size
                clear hxo hxa
                go_wp2_with (first | (at_builtin; refine wpList_append_x _ rfl (.tmp 51) (.tmp 52) 65 rfl w5.heap.size 30 _ 1 24 Tryd.underlying65 info_is rfl (by decide) _ n _ rfl HOW.out _ 0 1 1 [.slice none 0 0] rfl (HBK.out _).has rfl (by intro u hu; rw [List.mem_singleton] at hu; subst hu; rfl) (by unfold maxLen; omega) (by omega) (by have := HSZ1.out; simp; omega) ?_; rintro A' c' wq hO hgr hbel hat hn2; go_loud (have HG2 := Lib.hid (HADD.out _ _ _ hO hgr hat hn2)); go_loud (have HLQ := Lib.hid (Later.of ((HLC.out.alloc _).below.trans hbel))); go_loud (have HSZ2 := Lib.hid HLQ.out.size); go_loud (clear hO hgr hbel hat hn2); go_loud (obtain ⟨tb, La, Ln, Lc, hA', hLn, hcell, hfr, hbt, hcapn, hrow, hput⟩ := HG2.out.last1); go_loud (subst hA'); go_loud (have hLb : Ln ≤ 20 := Nat.le_trans (Nat.le_of_eq hLn) (Nat.le_trans (last_le HRB.out) (by omega))); go_loud (have HROW := Lib.hid (fun (o : Obj) => own_later hrow (Later.new wq o))); go_loud (have HPUT := Lib.hid hput); go_loud (have HBT := Lib.hid hbt); go_loud (have HBP := Lib.hid (fun (wz : World) => Blk.new wz #[.int .i64 p] 3 wz.heap.size rfl)); go_loud (clear hrow hput hLn hbt)) | (at_builtin; go_loud (refine wpList_append_x _ rfl (.tmp 63) (.tmp 65) 30 rfl w5.heap.size 3 _ 1 8 Tryd.underlying30 info_in rfl (by decide) _ Ln _ rfl (HROW.out _) _ 0 1 1 [.int .i64 p] rfl (HBP.out _).has rfl (by intro u hu; rw [List.mem_singleton] at hu; subst hu; rfl) (by unfold maxLen; omega) (by omega) (by have := HSZ2.out; simp; omega) ?_); rintro A2 c2 wz hO hgr hbel hat hn; go_loud (obtain ⟨hcz, hfz, hgz⟩ := HPUT.out _ _ _ _ p (Later.new _ _) hO hgr hat hn); go_loud (have HGZ := Lib.hid hgz); go_loud (have HLZ := Lib.hid ((Later.of ((HLQ.out.alloc _).below.trans hbel)).set_ (p := ⟨tb, n, none⟩) HBT.out (.slice A2 (Ln + 1) c2))); go_loud (clear hO hgr hbel hat hn hgz)))
                go_roundw
                case rel => exact RuI.mk _ (j + 1) _ _ _ (by omega) hltj (by rw [HRUN.out]; exact HGZ.out) HLZ.out
                case measure => simp [intOf]; omega
          · obtain rfl : j = k := by omega
            have HF := Lib.hid (show GroupsOf (colsOf zs) bys j (runsK cf S j) from .inr ⟨HNE.out, S, by rw [HCF.out]; exact HIS.out, by rw [HCF.out]⟩)
            have HLN := Lib.hid HGS.out.len
            have HAT := Lib.hid HGS.out.at_
            clear HGS lat
            go_wp2_with fail
            go_ret
            exact ⟨T, tc, runsK cf S j, by rw [← HLN.out]; rfl, by rw [HN.out]; exact HF.out, HAT.out, HL2.out.trans (HL5.out.trans HLC.out)⟩
end Go.Proofs.YtiacemlloaenoaaDoor
