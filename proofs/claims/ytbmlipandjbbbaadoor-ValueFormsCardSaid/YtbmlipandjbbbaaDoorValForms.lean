/- The walk of ValueForms. -/
import Derived.Test.YtbmlipandjbbbaaDoorValAll
import Derived.Test.YtbmlipandjbbbaaDoorConv
import Derived.Deep.RegionHeld3
namespace Go.Proofs.YtbmlipandjbbbaaDoor
open Go.RowKit
set_option linter.unusedVariables false

abbrev V3 := Int × Int × ByteArray
def flat (l : List V3) : List Value := l.flatMap fun x => [.int .i64 x.1, .int .i64 x.2.1, .string x.2.2]
theorem flat_get : ∀ (l : List V3) (k : Nat) (h : k < l.length), (flat l)[k * 3]? = some (.int .i64 l[k].1) ∧ (flat l)[k * 3 + 1]? = some (.int .i64 l[k].2.1) ∧ (flat l)[k * 3 + 2]? = some (.string l[k].2.2)
  | x :: r, 0, _ => ⟨rfl, rfl, rfl⟩
  | x :: r, k + 1, h => by
    have ih := flat_get r k (by simpa using h)
    rw [show (k + 1) * 3 = k * 3 + 3 by omega, show k * 3 + 3 + 1 = k * 3 + 1 + 3 by omega, show k * 3 + 3 + 2 = k * 3 + 2 + 3 by omega]
    exact ih
def badL : List V3 := [(0, 1, ⟨#[]⟩), (0, 0, ⟨#[120]⟩), (1, 32768, ⟨#[]⟩), (1, -32769, ⟨#[]⟩), (1, 0, ⟨#[120]⟩), (2, 0, ⟨#[120]⟩), (3, 2, ⟨#[]⟩), (3, -1, ⟨#[]⟩), (4, 1, ⟨#[]⟩),
  (4, 0, ⟨#[116, 119, 101, 110, 116, 121, 45, 111, 110, 101, 45, 98, 121, 116, 101, 115, 45, 108, 111, 110, 103]⟩), (5, 0, ⟨#[]⟩), (-1, 0, ⟨#[]⟩)]
theorem badL_no : ∀ x ∈ badL, ¬ MayV x.1 x.2.1 x.2.2.size := by
  unfold badL MayV
  decide
def goodL : List V3 := [(0, 0, ⟨#[]⟩), (1, -32768, ⟨#[]⟩), (2, -1, ⟨#[]⟩), (3, 1, ⟨#[]⟩), (4, 0, ⟨#[97, 98]⟩), (4, 0, ⟨#[]⟩)]
theorem goodL_yes : ∀ x ∈ goodL, MayV x.1 x.2.1 x.2.2.size := by
  unfold goodL MayV
  decide
theorem Blk.flat {w : World} {g : Nat} {l : List V3} {T : TypeId} (h : Blk w g (flat l).toArray T) (k : Nat) (hk : k < l.length) :
    w.cell? ⟨g, k * 3, none⟩ = some (.int .i64 l[k].1) ∧ w.cell? ⟨g, k * 3 + 1, none⟩ = some (.int .i64 l[k].2.1) ∧ w.cell? ⟨g, k * 3 + 2, none⟩ = some (.string l[k].2.2) := by
  obtain ⟨h1, h2, h3⟩ := flat_get l k hk
  exact ⟨h.cell _ _ (by rw [List.getElem?_toArray]; exact h1), h.cell _ _ (by rw [List.getElem?_toArray]; exact h2), h.cell _ _ (by rw [List.getElem?_toArray]; exact h3)⟩

def strs (l : List ByteArray) : List Value := l.map Value.string
def wantL : List ByteArray := [⟨#[0]⟩, ⟨#[1, 128, 0]⟩, ⟨#[2, 255, 255, 255, 255, 255, 255, 255, 255]⟩, ⟨#[3, 1]⟩, ⟨#[4, 2, 97, 98]⟩, ⟨#[4, 0]⟩]
theorem gw0 : bstr (putB 0 0 ⟨#[]⟩) = ⟨#[0]⟩ := by kernel_rfl
theorem gw1 : bstr (putB 1 (-32768) ⟨#[]⟩) = ⟨#[1, 128, 0]⟩ := by kernel_rfl
theorem gw2 : bstr (putB 2 (-1) ⟨#[]⟩) = ⟨#[2, 255, 255, 255, 255, 255, 255, 255, 255]⟩ := by kernel_rfl
theorem gw3 : bstr (putB 3 1 ⟨#[]⟩) = ⟨#[3, 1]⟩ := by kernel_rfl
theorem gw4 : bstr (putB 4 0 ⟨#[97, 98]⟩) = ⟨#[4, 2, 97, 98]⟩ := by kernel_rfl
theorem gw5 : bstr (putB 4 0 ⟨#[]⟩) = ⟨#[4, 0]⟩ := by kernel_rfl
theorem good_want (k : Nat) (t i : Int) (s S : ByteArray) (h : goodL[k]? = some (t, i, s)) (hS : wantL[k]? = some S) : bstr (putB t i s) = S := by
  match k, h, hS with
  | 0, h, hS => cases h; cases hS; exact gw0
  | 1, h, hS => cases h; cases hS; exact gw1
  | 2, h, hS => cases h; cases hS; exact gw2
  | 3, h, hS => cases h; cases hS; exact gw3
  | 4, h, hS => cases h; cases hS; exact gw4
  | 5, h, hS => cases h; cases hS; exact gw5
  | k + 6, h, _ => simp [goodL] at h
def noneL : List (List Nat) := [[], [1, 0], [2, 0, 0, 0, 0, 0, 0, 0], [3], [3, 2], [4], [4, 2, 97], [4, 21, 116, 119, 101, 110, 116, 121, 45, 111, 110, 101, 45, 98, 121, 116, 101, 115, 45, 108, 111, 110, 103], [5]]
set_option maxRecDepth 100000 in
theorem noneL_no : ∀ l ∈ noneL, (∀ x ∈ l, x < 256) ∧ l.length ≤ 100 ∧ takeV l = none := by
  unfold noneL
  decide
theorem conv_bytes2 (l : List Nat) (h256 : ∀ x ∈ l, x < 256) (w : World) : ∃ w' c, (convert 9 24 (.string (bstr l))).run Tryd.prog w = .ok (.slice (some ⟨w.heap.size, 0, none⟩) l.length c) w' ∧ Has w' (some ⟨w.heap.size, 0, none⟩) (ints .u8 l) ∧ Later w w' ∧ (l.length ≤ 1000000 → l.length ≤ c) ∧ (l.length ≤ 1000000 → c ≤ 9223372036854775807) := by
  have h := Lib.run_convert_string_bytes (P := Tryd.prog) w 9 24 5 (bstr l) Tryd.underlying9 Tryd.underlying24 Tryd.underlying5
  rw [bstr_size] at h
  refine ⟨_, _, h, ?_, bytes_below w _ _, fun _ => grownCap_ge _ _ _ _, fun hl => by have := grownCap_le_maxLen w l.length 0 5 (by unfold maxLen; omega); unfold maxLen at this; omega⟩
  unfold Has
  rw [Lib.bytesWorld_size]
  exact bytes_rd l h256 w _
theorem Blk.flatx {w : World} {g : Nat} {l : List V3} {T : TypeId} (h : Blk w g (Go.Proofs.YtbmlipandjbbbaaDoor.flat l).toArray T) (k : Nat) (hk : k < l.length) :
    ∃ t i s, l[k]? = some (t, i, s) ∧ w.cell? ⟨g, k * 3, none⟩ = some (.int .i64 t) ∧ w.cell? ⟨g, k * 3 + 1, none⟩ = some (.int .i64 i) ∧ w.cell? ⟨g, k * 3 + 2, none⟩ = some (.string s) := by
  obtain ⟨h1, h2, h3⟩ := h.flat k hk
  exact ⟨_, _, _, by rw [List.getElem?_eq_getElem hk], h1, h2, h3⟩

set_option maxRecDepth 100000 in
set_option maxHeartbeats 4000000 in
theorem valForms_walk (w : World) (hs : Sn w) : Calls Tryd.prog 6 #[] w fun e w' => e = .returned (.bool true) ∧ Later w w' := by
  go_enter Tryd.func6, Tryd.ntmps6
  go_wp2_with fail
  refine (begun1_any w hs).mono ?_
  rintro e w1 ⟨rfl, L⟩
  go_wp2_with fail
  have B := Blk.new w1 (flat badL).toArray 23 _ rfl
  have l2 := Later.new w1 (.cells (flat badL).toArray 23)
  obtain ⟨w2, hw2⟩ : ∃ w2, w2 = w1.alloc (.cells (flat badL).toArray 23) := ⟨_, rfl⟩
  rw [← hw2] at B l2
  obtain ⟨g, hg⟩ : ∃ g, g = w1.heap.size := ⟨_, rfl⟩
  rw [← hg] at B ⊢
  have L2 := L.trans l2
  change Code.wp _ _ _ _ (w1.alloc (.cells (flat badL).toArray 23))
  rw [← hw2]
  clear hw2 hg l2 L
  go_loopw [2] (fun i wr => ∃ k : Nat, k ≤ 12 ∧ i = .int .i64 k ∧ Later w2 wr) (fun i _ => 12 - (intOf i).toNat)
  case atStart => exact ⟨0, by omega, rfl, Later.refl _⟩
  case round =>
    obtain ⟨k, hk, rfl, hlat⟩ := hrel
    by_cases hlt : k < 12
    · obtain ⟨t, i, s, hmem, c0, c1, c2⟩ := (B.later hlat).flatx k hlt
      have hno : ¬ MayV t i s.size := badL_no (t, i, s) (List.mem_of_getElem? hmem)
      have hki : (k : Int) < 12 := by omega
      go_wp2_with fail
      have L3 := (L2.trans hlat).drew
      have B3 := (B.later hlat).drew
      have hnf : ¬ FitsV t t i s.size := fun h => hno h.2.2.2
      have d0 : CellIs wr.drew ⟨g, k * 3, none⟩ (.int .i64 t) := c0
      have d1 : CellIs wr.drew ⟨g, k * 3 + 1, none⟩ (.int .i64 i) := c1
      have d2 : CellIs wr.drew ⟨g, k * 3 + 2, none⟩ (.string s) := c2
      have lat := hlat.drew
      go_region_held3 (fun w' => w'.cell? ⟨g, k * 3, none⟩ = some (.int .i64 t) ∧ w'.cell? ⟨g, k * 3 + 1, none⟩ = some (.int .i64 i) ∧ w'.cell? ⟨g, k * 3 + 2, none⟩ = some (.string s)) (exact ⟨d0.out, d1.out, d2.out⟩) (first
        | (go_at_call 15; refine (may_l _ _ _ _ (hs.later L3)).mono ?_; intro e wX h; obtain ⟨rfl, lX⟩ := h.no hno; have L3 := L3.trans lX; have lat := lat.trans lX; have d0 := d0.later lX; have d1 := d1.later lX; have d2 := d2.later lX; clear lX h)
        | (go_at_call 19; refine (valPut_n _ _ _ _ (hs.later L3) hno).mono ?_; rintro e wX ⟨rfl, lX⟩; have L3 := L3.trans lX; have lat := lat.trans lX; have d0 := d0.later lX; have d1 := d1.later lX; have d2 := d2.later lX; clear lX)
        | (go_at_call 17; refine (fits_l _ _ _ _ _ (hs.later L3)).mono ?_; intro e wX h; obtain ⟨rfl, lX⟩ := h.no hnf; have L3 := L3.trans lX; have lat := lat.trans lX; have d0 := d0.later lX; have d1 := d1.later lX; have d2 := d2.later lX; clear lX h))
      -- REST
      all_goals go_wp2_with fail
      all_goals go_roundw
      case rel => exact ⟨k + 1, by omega, by go_num, lat⟩
      case measure => simp [intOf]; omega
    · obtain rfl : k = 12 := by omega
      have L2 := L2.trans hlat
      clear B hlat
      go_wp2_with fail
      change Code.wp _ _ _ _ ((wr.alloc (.cells (flat goodL).toArray 23)).alloc (.cells (strs wantL).toArray 9))
      have l2 := Later.new wr (.cells (flat goodL).toArray 23)
      have B := (Blk.new wr (flat goodL).toArray 23 _ rfl).later (Later.new _ (.cells (strs wantL).toArray 9))
      have C := Blk.new (wr.alloc (.cells (flat goodL).toArray 23)) (strs wantL).toArray 9 (wr.heap.size + 1) (by simp)
      have l3 := l2.alloc (.cells (strs wantL).toArray 9)
      obtain ⟨w3, hw3⟩ : ∃ w3, w3 = (wr.alloc (.cells (flat goodL).toArray 23)).alloc (.cells (strs wantL).toArray 9) := ⟨_, rfl⟩
      rw [← hw3] at B C l3 ⊢
      obtain ⟨g2, hg2⟩ : ∃ g, g = wr.heap.size := ⟨_, rfl⟩
      obtain ⟨g3, hg3⟩ : ∃ g, g = wr.heap.size + 1 := ⟨_, rfl⟩
      rw [← hg2] at B
      rw [← hg3] at C
      rw [← hg3, ← hg2]
      have L2 := L2.trans l3
      clear hw3 hg2 hg3 l2 l3
      go_loopw [5] (fun i wq => ∃ k : Nat, k ≤ 6 ∧ i = .int .i64 k ∧ Later w3 wq) (fun i _ => 6 - (intOf i).toNat)
      case atStart => exact ⟨0, by omega, rfl, Later.refl _⟩
      case round =>
        rename_i wr0 _ _
        obtain ⟨k, hk, rfl, hlat⟩ := hrel
        by_cases hlt : k < 6
        · obtain ⟨t, i, s, hmem, c0, c1, c2⟩ := (B.later hlat).flatx k hlt
          have hyes : MayV t i s.size := goodL_yes (t, i, s) (List.mem_of_getElem? hmem)
          obtain ⟨S, hS⟩ : ∃ S, wantL[k]? = some S := ⟨_, List.getElem?_eq_getElem (show k < wantL.length from hlt)⟩
          have c3 := (C.later hlat).cell k (.string S) (by rw [List.getElem?_toArray, strs, List.getElem?_map, hS]; rfl)
          have HST := Lib.hid (good_want k t i s S hmem hS)
          have hki : (k : Int) < 6 := by omega
          go_wp2_with fail
          have L3 := (L2.trans hlat).drew
          have lat := hlat.drew
          have d0 : CellIs _ ⟨g2, k * 3, none⟩ (.int .i64 t) := CellIs.drew c0
          have d1 : CellIs _ ⟨g2, k * 3 + 1, none⟩ (.int .i64 i) := CellIs.drew c1
          have d2 : CellIs _ ⟨g2, k * 3 + 2, none⟩ (.string s) := CellIs.drew c2
          have d3 : CellIs _ ⟨g3, k, none⟩ (.string S) := CellIs.drew c3
          refine wp_region_held_drew (S := (fun w' => w'.cell? ⟨g2, k * 3, none⟩ = some (.int .i64 t) ∧ w'.cell? ⟨g2, k * 3 + 1, none⟩ = some (.int .i64 i) ∧ w'.cell? ⟨g2, k * 3 + 2, none⟩ = some (.string s) ∧ w'.cell? ⟨g3, k, none⟩ = some (.string S))) (by kernel_rfl) ?_ (fun hHeld => ?_)
          · exact ⟨d0.out, d1.out, d2.out, d3.out⟩
          refine wpAnyH_take (i := 0) (oi := { dst := some 72, op := _, type := _, pos := _, after := _, guard := _ }) (v := ?_) rfl (by kernel_rfl) (by kernel_rfl) (by kernel_rfl) (fun _ _ _ h => h) (Or.inl ⟨by rfl, ?_⟩) (by assumption) ?_
          rotate_left
          focus ((intro w hSw; (try dsimp only at hSw); go_simp); (try with_reducible rfl))
          (try simp only [Act.put, List.setIfInBounds_toArray, List.set_cons_zero, List.set_cons_succ])
          refine wpAnyH_take (i := 1) (oi := { dst := some 73, op := _, type := _, pos := _, after := _, guard := _ }) (v := ?_) rfl (by kernel_rfl) (by kernel_rfl) (by kernel_rfl) (fun _ _ _ h => h) (Or.inl ⟨by rfl, ?_⟩) (by assumption) ?_
          rotate_left
          focus ((intro w hSw; (try dsimp only at hSw); go_simp); (try with_reducible rfl))
          (try simp only [Act.put, List.setIfInBounds_toArray, List.set_cons_zero, List.set_cons_succ])
          refine wpAnyH_take (i := 2) (oi := { dst := some 74, op := _, type := _, pos := _, after := _, guard := _ }) (v := ?_) rfl (by kernel_rfl) (by kernel_rfl) (by kernel_rfl) (fun _ _ _ h => h) (Or.inl ⟨by rfl, ?_⟩) (by assumption) ?_
          rotate_left
          focus ((intro w hSw; (try dsimp only at hSw); go_simp); (try with_reducible rfl))
          (try simp only [Act.put, List.setIfInBounds_toArray, List.set_cons_zero, List.set_cons_succ])
          refine wpAnyH_take (i := 3) (oi := { dst := some 75, op := _, type := _, pos := _, after := _, guard := _ }) (v := ?_) rfl (by kernel_rfl) (by kernel_rfl) (by kernel_rfl) (fun _ _ _ h => h) (Or.inl ⟨by rfl, ?_⟩) (by assumption) ?_
          rotate_left
          focus ((intro w hSw; (try dsimp only at hSw); go_simp); (try with_reducible rfl))
          (try simp only [Act.put, List.setIfInBounds_toArray, List.set_cons_zero, List.set_cons_succ])
          refine wpAnyH_take (i := 6) (oi := { dst := some 78, op := _, type := _, pos := _, after := _, guard := _ }) (v := ?_) rfl (by kernel_rfl) (by kernel_rfl) (by kernel_rfl) (fun _ _ _ h => h) (Or.inl ⟨by rfl, ?_⟩) (by assumption) ?_
          rotate_left
          focus ((intro w hSw; (try dsimp only at hSw); go_simp); (try with_reducible rfl))
          (try simp only [Act.put, List.setIfInBounds_toArray, List.set_cons_zero, List.set_cons_succ])
          refine wpAnyH_take (i := 7) (oi := { dst := some 79, op := _, type := _, pos := _, after := _, guard := _ }) (v := ?_) rfl (by kernel_rfl) (by kernel_rfl) (by kernel_rfl) (fun _ _ _ h => h) (Or.inl ⟨by rfl, ?_⟩) (by assumption) ?_
          rotate_left
          focus ((intro w hSw; (try dsimp only at hSw); go_simp); (try with_reducible rfl))
          (try simp only [Act.put, List.setIfInBounds_toArray, List.set_cons_zero, List.set_cons_succ])
          refine wpAnyH_take (i := 8) (oi := { dst := some 80, op := _, type := _, pos := _, after := _, guard := _ }) (v := ?_) rfl (by kernel_rfl) (by kernel_rfl) (by kernel_rfl) (fun _ _ _ h => h) (Or.inl ⟨by rfl, ?_⟩) (by assumption) ?_
          rotate_left
          focus ((intro w hSw; (try dsimp only at hSw); go_simp); (try with_reducible rfl))
          (try simp only [Act.put, List.setIfInBounds_toArray, List.set_cons_zero, List.set_cons_succ])
          refine wpAnyH_take (i := 9) (oi := { dst := some 81, op := _, type := _, pos := _, after := _, guard := _ }) (v := ?_) rfl (by kernel_rfl) (by kernel_rfl) (by kernel_rfl) (fun _ _ _ h => h) (Or.inl ⟨by rfl, ?_⟩) (by assumption) ?_
          rotate_left
          focus ((intro w hSw; (try dsimp only at hSw); go_simp); (try with_reducible rfl))
          (try simp only [Act.put, List.setIfInBounds_toArray, List.set_cons_zero, List.set_cons_succ])
          refine wpAnyH_ready (rs := [4]) (by kernel_rfl) (by simp) ?_
          refine AllReadyH.cons (o := { dst := some 76, op := _, type := _, pos := _, after := _, guard := _ }) rfl (fun K hK => ?_) AllReadyH.nil
          go_simp
          (go_at_call 19; refine (valPut_l _ _ _ _ (hs.later L3) hyes).mono ?_; rintro e wX ⟨P1, cp1, rfl, r1, _, _, _, lX⟩; have L3 := L3.trans lX; have lat := lat.trans lX; have d0 := d0.later lX; have d1 := d1.later lX; have d2 := d2.later lX; have d3 := d3.later lX; clear lX)
          refine hK.out _ _ ?_ (fun hHeld => ?_)
          · exact ⟨d0.out, d1.out, d2.out, d3.out⟩
          clear hK K
          (try simp only [Act.put, List.setIfInBounds_toArray, List.set_cons_zero, List.set_cons_succ])
          refine wpAnyH_turn (S' := (fun w' => (w'.cell? ⟨g2, k * 3, none⟩ = some (.int .i64 t) ∧ w'.cell? ⟨g2, k * 3 + 1, none⟩ = some (.int .i64 i) ∧ w'.cell? ⟨g2, k * 3 + 2, none⟩ = some (.string s) ∧ w'.cell? ⟨g3, k, none⟩ = some (.string S)) ∧ (convert 24 9 (.slice P1 (putB t i s).length cp1)).run Tryd.prog w' = .ok (.string S) w')) (fun _ h => h.1) ?_
          have hHeld : (fun w' => (w'.cell? ⟨g2, k * 3, none⟩ = some (.int .i64 t) ∧ w'.cell? ⟨g2, k * 3 + 1, none⟩ = some (.int .i64 i) ∧ w'.cell? ⟨g2, k * 3 + 2, none⟩ = some (.string s) ∧ w'.cell? ⟨g3, k, none⟩ = some (.string S)) ∧ (convert 24 9 (.slice P1 (putB t i s).length cp1)).run Tryd.prog w' = .ok (.string S) w') wX := by exact ⟨⟨d0.out, d1.out, d2.out, d3.out⟩, by rw [← HST.out]; exact conv_str P1 _ cp1 _ rfl _ _ r1⟩
          refine wpAnyH_take (i := 5) (oi := { dst := some 77, op := _, type := _, pos := _, after := _, guard := _ }) (v := ?_) rfl (by kernel_rfl) (by kernel_rfl) (by kernel_rfl) (fun _ _ _ h => h) (Or.inl ⟨by rfl, ?_⟩) (by assumption) ?_
          rotate_left
          focus ((intro w hSw; (try dsimp only at hSw); go_simp); (try with_reducible rfl))
          (try simp only [Act.put, List.setIfInBounds_toArray, List.set_cons_zero, List.set_cons_succ])
          refine wpAnyH_take (i := 10) (oi := { dst := some 82, op := _, type := _, pos := _, after := _, guard := _ }) (v := ?_) rfl (by kernel_rfl) (by kernel_rfl) (by kernel_rfl) (fun _ _ _ h => h) (Or.inl ⟨by rfl, ?_⟩) (by assumption) ?_
          rotate_left
          focus ((intro w hSw; (try dsimp only at hSw); go_simp); (try with_reducible rfl))
          (try simp only [Act.put, List.setIfInBounds_toArray, List.set_cons_zero, List.set_cons_succ])
          refine wpAnyH_done (by kernel_rfl) ?_ _
          go_wp2_with fail
          go_roundw
          case rel => first | exact ⟨k + 1, by omega, by go_num, lat⟩ | exact ⟨k + 1, by omega, by omega⟩
          case measure => simp [intOf]; omega
        · obtain rfl : k = 6 := by omega
          have L2 := L2.trans hlat
          clear B C hlat
          go_wp2_with fail
          change Code.wp _ _ _ _ (wr.alloc (.cells (strs (noneL.map bstr)).toArray 9))
          have C := Blk.new wr (strs (noneL.map bstr)).toArray 9 _ rfl
          have l3 := Later.new wr (.cells (strs (noneL.map bstr)).toArray 9)
          obtain ⟨w4, hw4⟩ : ∃ w4, w4 = wr.alloc (.cells (strs (noneL.map bstr)).toArray 9) := ⟨_, rfl⟩
          rw [← hw4] at C l3 ⊢
          obtain ⟨g4, hg4⟩ : ∃ g, g = wr.heap.size := ⟨_, rfl⟩
          rw [← hg4] at C ⊢
          have L2 := L2.trans l3
          clear hw4 hg4 l3
          go_loopw [7] (fun i wq => ∃ k : Nat, k ≤ 9 ∧ i = .int .i64 k ∧ Later w4 wq) (fun i _ => 9 - (intOf i).toNat)
          case atStart => exact ⟨0, by omega, rfl, Later.refl _⟩
          case round =>
            obtain ⟨k, hk, rfl, hlat⟩ := hrel
            by_cases hlt : k < 9
            · obtain ⟨l, hl⟩ : ∃ l, noneL[k]? = some l := ⟨_, List.getElem?_eq_getElem (show k < noneL.length from hlt)⟩
              have c3 := (C.later hlat).cell k (.string (bstr l)) (by rw [List.getElem?_toArray, strs, List.getElem?_map, List.getElem?_map, hl]; rfl)
              have hki : (k : Int) < 9 := by omega
              obtain ⟨h256, hlen, hno⟩ := noneL_no l (List.mem_of_getElem? hl)
              obtain ⟨w5, c5, hcv, r5, l5, hc5, hm5⟩ := conv_bytes2 l h256 wr
              have HT := Lib.hid (valTake_any _ c5 l w5 (hs.later ((L2.trans hlat).trans l5)) r5 h256 (by omega) (hc5 (by omega)) (hm5 (by omega)))
              clear hl r5 hc5 hm5
              go_wp2_with fail
              refine HT.out.mono ?_
              intro e w6 h
              obtain ⟨rfl, l6⟩ := h.no hno
              have HL := Lib.hid (((hlat.trans l5).trans l6).alloc (.cells #[.int .i64 0, .int .i64 0, .string ⟨#[]⟩] 23))
              clear HT hcv c3 h l5 l6
              go_wp2_with fail
              go_roundw
              case rel => first | exact ⟨k + 1, by omega, by go_num, HL.out⟩ | exact ⟨k + 1, by omega, by omega⟩ | ((repeat apply Exists.intro); exact ⟨⟨k + 1, by omega, by go_num, HL.out⟩, rfl⟩) | trace_state
              case measure => simp [intOf]; omega
            · obtain rfl : k = 9 := by omega
              have L := L2.trans hlat
              clear L2 hlat C
              go_wp2_with fail
              refine (valCmp_any 1 3 ⟨#[]⟩ 2 3 ⟨#[]⟩ _).mono ?_
              rintro e wa ⟨rfl, l⟩
              rw [show cmpV 1 3 ⟨#[]⟩ 2 3 ⟨#[]⟩ = 0 by decide]
              have L := L.trans l
              clear l
              go_wp2_with fail
              refine (fits_l 4 0 0 ⟨#[]⟩ _ (hs.later L)).mono ?_
              intro e wb h
              obtain ⟨rfl, l⟩ := h.yes (by unfold FitsV MayV; decide)
              have L := L.trans l
              clear l h
              go_wp2_with fail
              refine (fits_l 0 0 0 ⟨#[]⟩ _ (hs.later L)).mono ?_
              intro e wc h
              obtain ⟨rfl, l⟩ := h.no (by unfold FitsV MayV; decide)
              have L := L.trans l
              clear l h
              go_wp2_with fail
              refine (fits_l 5 0 0 ⟨#[]⟩ _ (hs.later L)).mono ?_
              intro e wd h
              obtain ⟨rfl, l⟩ := h.no (by unfold FitsV MayV; decide)
              have L := L.trans l
              clear l h
              go_wp2_with fail
              go_ret
              exact ⟨rfl, L⟩
end Go.Proofs.YtbmlipandjbbbaaDoor
