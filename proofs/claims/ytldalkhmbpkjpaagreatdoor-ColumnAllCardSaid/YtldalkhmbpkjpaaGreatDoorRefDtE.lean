
import Derived.Test.YtldalkhmbpkjpaaGreatDoorPlainMath
import Derived.Test.YtldalkhmbpkjpaaGreatDoorCell
import Derived.Test.YtldalkhmbpkjpaaGreatDoorRCmp
import Derived.Deep.RegionHeld3
import Derived.Test.YtldalkhmbpkjpaaGreatDoorRefL
import Derived.Shelf.SlSortCmp.QuietGrown
import Derived.BigQuiet
import Derived.Deep.RegionLaw
import Derived.Test.YtldalkhmbpkjpaaGreatDoorBitsJ
/- Plain mathematics of the reference's values and dict; append of a row, maybe nil, at a step of a region. -/

namespace Go.Proofs.YtldalkhmbpkjpaaGreatDoor
open Go.RowKit
set_option linter.unusedVariables false

theorem insV_at (x : Val3) : ∀ (d : List Val3) (k : Nat), k ≤ d.length → (∀ a (h : a < d.length), a < k → cmp3 d[a] x < 0) → (∀ h : k < d.length, ¬ cmp3 d[k] x < 0) →
    ((∀ h : k < d.length, cmp3 d[k] x = 0 → insV x d = d) ∧ ((∀ h : k < d.length, cmp3 d[k] x ≠ 0) → insV x d = d.take k ++ ([x] ++ d.drop k)))
  | [], k, hk, _, _ => by
    obtain rfl : k = 0 := by simpa using hk
    exact ⟨fun h => absurd h (by simp), fun _ => rfl⟩
  | y :: r, 0, _, _, h2 => by
    have hn : ¬ cmp3 y x < 0 := h2 (by simp)
    constructor
    · intro h h0
      have h0 : cmp3 y x = 0 := h0
      unfold insV
      rw [if_neg hn, if_pos h0]
    · intro h
      have h0 : cmp3 y x ≠ 0 := h (by simp)
      unfold insV
      rw [if_neg hn, if_neg h0]
      rfl
  | y :: r, k + 1, hk, h1, h2 => by
    have hy : cmp3 y x < 0 := h1 0 (by simp) (by omega)
    have ih := insV_at x r k (by simpa using hk) (fun a h ha => by
      have := h1 (a + 1) (by simp; omega) (by omega)
      simpa using this) (fun h => by
      have := h2 (by simp; omega)
      simpa using this)
    constructor
    · intro h h0
      unfold insV
      rw [if_pos hy, ih.1 (by simpa using h) (by simpa using h0)]
    · intro h
      unfold insV
      rw [if_pos hy, ih.2 (fun h' => by
        have := h (by simp; omega)
        simpa using this)]
      rfl
theorem asc_place {d : List Val3} (ha : Asc d) {x : Val3} (hx : x ∈ d) {k : Nat} (hk : k < d.length) : d[k] = x ↔ k = placeOf d x := by
  obtain ⟨h1, h2⟩ := placeOf_mem ha hx
  constructor
  · intro h
    rw [← h, placeOf_get ha k hk]
  · intro h
    subst h
    exact h2
theorem widD_ref (n : Nat) : wid (max n 1 - 1) = widD n := by
  unfold widD
  split
  · rename_i h; subst h; rfl
  · rw [show max n 1 = n by omega]
theorem words_take {l : List Val3} {j : Nat} (h : j < l.length) : wordsOf (l.take (j + 1)) = insV l[j] (wordsOf (l.take j)) := by
  unfold wordsOf
  rw [List.take_succ_eq_append_getElem h, wordsF_snoc]

theorem run_append_gn {P : Program} (w : World) (t ty : TypeId) (base : Nat) (e : TypeId) (z : Value) (size bytes : Nat) (ht : P.underlying t = some (.slice e)) (hinfo : (P.info? e).map (fun i => (i.zero, i.size, i.bytes)) = some (some z, size, bytes)) (hzs : z.cells.size = size) (hsz0 : 0 < size)
    (v : Value) (n : Nat) (xs : List Value) (hown : w.ownsRow base e size v n xs)
    (A : Option Addr) (m c : Nat) (news : List Value) (hr : Has w A news) (hm : news.length = m * size) (hnil : A = none → c = 0) (h1 : ∀ u ∈ news, u.oneCell' = true)
    (h63 : n + m ≤ maxLen) (hbytes : (n + m) * bytes ≤ 140737488355328) (hbase : base ≤ w.heap.size) :
    ∃ A' c' w', (Builtin.append_ #[t, t] ty #[v, .slice A m c]).run P w = .ok (.slice A' (n + m) c') w' ∧ w'.ownsRow base e size (.slice A' (n + m) c') (n + m) (xs ++ news) ∧ w.grownBy w' v.ownBlock ∧ Below base w w' ∧ (A' = none → c' = 0) := by
  obtain ⟨i, hi, hz, hsz, hby⟩ := info_parts hinfo
  rcases A with _ | ad
  · have hn : news = [] := by
      rcases hr with h | ⟨b, off, h, _⟩
      · exact h
      · cases h
    subst hn
    have hm0 : m = 0 := by
      rcases Nat.eq_zero_or_pos m with h | h
      · exact h
      · have := Nat.mul_pos h hsz0
        rw [← hm] at this
        simp at this
    subst hm0
    have hc0 := hnil rfl
    subst hc0
    obtain ⟨A', c', hv, hc'⟩ := ownG_shape hown
    subst hv
    exact ⟨A', c', w, run_append_owned_none (P := P) (w := w) base t ty e i size ht hi _ n xs hown, by simpa using hown, World.grownBy.refl _ _, Below.refl _ _, hc'⟩
  · have hcells : ∀ j u, news[j]? = some u → w.cell? (ad.add j) = some u := by
      intro j u hu
      rcases hr with h | ⟨b, off, h, _, hc⟩
      · subst h; simp at hu
      · injection h with h
        subst h
        rw [add_plain]
        exact hc j u hu
    obtain ⟨v', w', hrun, h2, h3, _, _⟩ := run_append_own_at (P := P) w base t ty e i z size bytes ht hi hz hsz hby hzs hsz0 v n xs hown ad m c news hm hcells h1 h63 hbytes hbase
    obtain ⟨A', c', hv, hc'⟩ := ownG_shape h2
    subst hv
    exact ⟨A', c', w', hrun, h2, h3, (Below.refl _ _).grown h3 hbase fun k hk => (hown.lt k hk).1, hc'⟩
theorem step_append_gn {P : Program} {w : World} {ops : Array Oper} {o : Oper} {a : Act} {K : Act → World → Prop} {Q : Exit → Act → World → Prop} {E : Prop} (hgd : o.guard = none) (s x : Operand) (t : TypeId)
    (ho : o.op = .call { callee := .builtin .append, args := #[s, x], argTypes := #[t, t] })
    (base : Nat) (e : TypeId) (z : Value) (size bytes : Nat) (ht : P.underlying t = some (.slice e)) (hinfo : (P.info? e).map (fun i => (i.zero, i.size, i.bytes)) = some (some z, size, bytes)) (hzs : z.cells.size = size) (hsz0 : 0 < size)
    (v : Value) (n : Nat) (xs : List Value) (hs : a.eval s = v) (hown : w.ownsRow base e size v n xs)
    (A : Option Addr) (m c : Nat) (news : List Value) (hx : a.eval x = .slice A m c) (hr : Has w A news) (hm : news.length = m * size) (hnil : A = none → c = 0) (h1 : ∀ u ∈ news, u.oneCell' = true)
    (h63 : n + m ≤ maxLen) (hbytes : (n + m) * bytes ≤ 140737488355328) (hbase : base ≤ w.heap.size)
    (h : ∀ A' c' w', w'.ownsRow base e size (.slice A' (n + m) c') (n + m) (xs ++ news) → w.grownBy w' v.ownBlock → Below base w w' → (A' = none → c' = 0) → K (a.put o.dst (.slice A' (n + m) c')) w') :
    if Region.wanted o (yielded ops a.tmps) = true then Oper.wp P o a w K Q else E := by
  have hw : Region.wanted o (yielded ops a.tmps) = true := by simp [Region.wanted, hgd]
  rw [if_pos hw]
  obtain ⟨A', c', w', hrun, h2, h3, h4, h5⟩ := run_append_gn (P := P) w t o.type base e z size bytes ht hinfo hzs hsz0 v n xs hown A m c news hr hm hnil h1 h63 hbytes hbase
  unfold Oper.wp execOp
  simp only [ho, resolve, invoke, builtin, Sem.run_bind, Sem.run_pure, Result.andThen_ok, List.map_toArray, List.map_cons, List.map_nil, hs, hx, hrun]
  exact h A' c' w' h2 h3 h4 h5
end Go.Proofs.YtldalkhmbpkjpaaGreatDoor

/- The walk of the reference's Compare, in a seat without value.width: the world has grown alone. -/

namespace Go.Proofs.YtldalkhmbpkjpaaGreatDoor
open Go.RowKit
set_option linter.unusedVariables false

theorem Grows.drew {w w' : World} (h : Grows w w') : Grows w w'.drew := h.trans ⟨1, #[], by rw [Go.Sort.grow_empty]; rfl⟩
theorem class_g (t i : Int) (s : ByteArray) (w : World) : Calls Tryz.prog 98 #[vagg t i s] w fun e w' => e = .returned (.int .i64 (rankV t)) ∧ Grows w w' := by
  have HE1 := Lib.hid (fun o : Obj => Grows.new w o)
  go_enter Tryz.func98, Tryz.ntmps98
  go_wp2_with fail
  all_goals go_ret
  all_goals simp only [beq_iff_eq, beq_eq_false_iff_ne, ne_eq] at *
  all_goals exact ⟨ret_int (by simp [rankV, *]), HE1.out _⟩

set_option maxRecDepth 100000 in
set_option maxHeartbeats 2000000 in
theorem refCmp_g (t i : Int) (s : ByteArray) (t' i' : Int) (s' : ByteArray) (w : World) :
    Calls Tryz.prog 76 #[vagg t i s, vagg t' i' s'] w (GrowsInt (cmpV t i s t' i' s') w) := by
  obtain ⟨w1, hw1⟩ : ∃ w1 : World, (w.alloc (.cells #[.int .i64 t, .int .i64 i, .string s] 26)).alloc (.cells #[.int .i64 t', .int .i64 i', .string s'] 26) = w1 := ⟨_, rfl⟩
  have L1 : Grows w w1 := hw1 ▸ ((Grows.refl w).alloc _).alloc _
  have A1 : Blk w1 w.heap.size #[.int .i64 t, .int .i64 i, .string s] 26 := hw1 ▸ (Blk.new w _ _ _ rfl).later (Later.new _ _)
  have B1 : Blk w1 (w.heap.size + 1) #[.int .i64 t', .int .i64 i', .string s'] 26 := hw1 ▸ Blk.new _ _ _ _ (by simp)
  have HW := Lib.hid hw1
  clear hw1
  have a0 := A1.cell 0 _ rfl
  have a1 := A1.cell 1 _ rfl
  have a2 := A1.cell 2 _ rfl
  have b0 := B1.cell 0 _ rfl
  have b1 := B1.cell 1 _ rfl
  have b2 := B1.cell 2 _ rfl
  go_enter Tryz.func76, Tryz.ntmps76
  go_wp2_with fail
  rw [HW.out]
  have A1 := A1.drew
  have B1 := B1.drew
  have L1 := L1.drew
  go_region_with (go_at_call 98; refine (class_g _ _ _ _).mono ?_; rintro e wX ⟨rfl, lX⟩; have A1 := A1.later lX.later; have B1 := B1.later lX.later; have L1 := L1.trans lX; have a0 := A1.cell 0 _ rfl; have a1 := A1.cell 1 _ rfl; have a2 := A1.cell 2 _ rfl; have b0 := B1.cell 0 _ rfl; have b1 := B1.cell 1 _ rfl; have b2 := B1.cell 2 _ rfl; clear lX)
  all_goals
    have hin := rankV_in t
    have hin' := rankV_in t'
    have HF := Lib.hid (show rankV t ≠ rankV t' → cmpV t i s t' i' s' = cmpI (rankV t) (rankV t') from cmpV_far)
    have HV := Lib.hid (show rankV t = rankV t' → cmpV t i s t' i' s' = if rankV t = 0 then 0 else if rankV t = 2 then cmpS s.data.toList s'.data.toList else cmpI i i' from cmpV_near)
    obtain ⟨x, hx⟩ : ∃ x, x = rankV t := ⟨_, rfl⟩
    obtain ⟨y, hy⟩ : ∃ y, y = rankV t' := ⟨_, rfl⟩
    rw [← hx] at hin HF HV ⊢
    rw [← hy] at hin' HF HV ⊢
    have hx3 : x = 0 ∨ x = 1 ∨ x = 2 := by omega
    have hy3 : y = 0 ∨ y = 1 ∨ y = 2 := by omega
    clear hx hy hin hin'
    rcases Int.lt_trichotomy x y with hlt | heq | hgt
    · have HZ := Lib.hid ((HF.out (by omega)).trans (cmpI_lt hlt))
      clear hx3 hy3
      go_wp2_with fail
      go_ret
      exact ⟨ret_int HZ.out.symm, L1⟩
    · subst heq
      rcases hx3 with rfl | rfl | rfl
      · have HZ := Lib.hid (show cmpV t i s t' i' s' = 0 from HV.out rfl)
        clear hy3
        go_wp2_with fail
        go_ret
        exact ⟨ret_int HZ.out.symm, L1⟩
      · have HZ := Lib.hid (show cmpV t i s t' i' s' = cmpI i i' from HV.out rfl)
        clear hy3
        rcases Int.lt_trichotomy i i' with hlt | heq | hgt
        · have HZ2 := Lib.hid (HZ.out.trans (cmpI_lt hlt))
          go_wp2_with fail
          go_ret
          exact ⟨ret_int HZ2.out.symm, L1⟩
        · have HZ2 := Lib.hid (HZ.out.trans (cmpI_eq heq))
          subst heq
          go_wp2_with fail
          go_ret
          exact ⟨ret_int HZ2.out.symm, L1⟩
        · have HZ2 := Lib.hid (HZ.out.trans (cmpI_gt hgt))
          have hnl : ¬ i < i' := by omega
          go_wp2_with fail
          go_ret
          exact ⟨ret_int HZ2.out.symm, L1⟩
      · have HZ := Lib.hid (show cmpV t i s t' i' s' = cmpS s.data.toList s'.data.toList from HV.out rfl)
        have hless : Op.bytesLess s.toList s'.toList = decide (cmpS s.data.toList s'.data.toList < 0) := by rw [Lib.toList_data, Lib.toList_data, less_iff]
        have heqs : (s.toList == s'.toList) = decide (cmpS s.data.toList s'.data.toList = 0) := by
          rw [Lib.toList_data, Lib.toList_data, Bool.eq_iff_iff]
          simp only [beq_iff_eq, decide_eq_true_eq]
          exact ⟨fun h => by rw [h]; exact cmpS_self _, cmpS_zero _ _⟩
        clear hy3
        rcases cmpS_in s.data.toList s'.data.toList with h | h | h
        · have HZ2 := Lib.hid (HZ.out.trans h)
          have hl : Op.bytesLess s.toList s'.toList = true := by rw [hless, h]; rfl
          clear hless heqs h
          go_wp2_with fail
          go_ret
          exact ⟨ret_int HZ2.out.symm, L1⟩
        · have HZ2 := Lib.hid (HZ.out.trans h)
          have hl : Op.bytesLess s.toList s'.toList = false := by rw [hless, h]; rfl
          have he : (s.toList == s'.toList) = true := by rw [heqs, h]; rfl
          clear hless heqs h
          go_wp2_with fail
          go_ret
          exact ⟨ret_int HZ2.out.symm, L1⟩
        · have HZ2 := Lib.hid (HZ.out.trans h)
          have hl : Op.bytesLess s.toList s'.toList = false := by rw [hless, h]; rfl
          have he : (s.toList == s'.toList) = false := by rw [heqs, h]; rfl
          clear hless heqs h
          go_wp2_with fail
          go_ret
          exact ⟨ret_int HZ2.out.symm, L1⟩
    · have HZ := Lib.hid ((HF.out (by omega)).trans (cmpI_gt hgt))
      have hnl : ¬ x < y := by omega
      have hne : (x == y) = false := by simp; omega
      clear hx3 hy3
      go_wp2_with fail
      go_ret
      exact ⟨ret_int HZ.out.symm, L1⟩
end Go.Proofs.YtldalkhmbpkjpaaGreatDoor

/- The walk of the reference's values. -/

namespace Go.Proofs.YtldalkhmbpkjpaaGreatDoor
open Go.RowKit
set_option linter.unusedVariables false

theorem refCmp_q (x y : Val3) (w : World) : Calls Tryz.prog 76 #[.agg #[.int .i64 x.1, .int .i64 x.2.1, .string x.2.2], .agg #[.int .i64 y.1, .int .i64 y.2.1, .string y.2.2]] w fun e w' => e = .returned (.int .i64 (cmp3 x y)) ∧ ∃ q os, w' = Go.Sort.grow (w.drewN q) os := refCmp_g _ _ _ _ _ _ w
theorem grow_laterR (w : World) (q : Nat) (os : Array Obj) : Later w (Go.Sort.grow (w.drewN q) os) := Grows.later ⟨q, os, rfl⟩
theorem Has.block {w : World} {b off : Nat} {d : List Val3} (h : Has w (some ⟨b, off, none⟩) (fl d)) {k : Nat} (hk : k < d.length) : b < w.heap.size := by
  rcases h with h | ⟨b', off', h, hb', _⟩
  · have h := congrArg List.length h; rw [fl_length] at h; simp at h; omega
  · injection h with h; injection h with h _ _; rw [h]; exact hb'
theorem blk_grown {w w' : World} {row : Option Nat} {g : Nat} {cs : Array Value} {t : TypeId} (h : w.grownBy w' row) (b : Blk w g cs t) (hn : some g ≠ row) : Blk w' g cs t := (h.block g b.lt hn).trans b
theorem ownG_addr {w : World} {base : Nat} {e : TypeId} {size : Nat} {A : Option Addr} {c n : Nat} {xs : List Value} (h : w.ownsRow base e size (.slice A n c) n xs) : A = none ∨ ∃ g off, A = some ⟨g, off, none⟩ := by
  rcases h.2 with ⟨h1, _⟩ | ⟨g, cap, cur, h1, _⟩
  · injection h1 with h _ _; exact .inl h
  · injection h1 with h _ _; exact .inr ⟨g, 0, h⟩
/-- Where values' loop stands. -/
def VInv (l : List Val3) (w : World) (ov iv : Value) (wr : World) : Prop :=
  ∃ (D : Option Addr) (nd cd j : Nat), ov = .slice D nd cd ∧ iv = .int .i64 (j : Int) ∧ j ≤ l.length ∧ nd = (wordsOf (l.take j)).length ∧ nd ≤ cd ∧ cd ≤ 9223372036854775807 ∧ (D = none → cd = 0) ∧ (D = none ∨ ∃ g off, D = some ⟨g, off, none⟩) ∧ Has wr D (fl (wordsOf (l.take j))) ∧ Later w wr
theorem VInv.mk {l : List Val3} {w wr : World} (D : Option Addr) (nd cd j : Nat) (i : Int) (hi : i = (j : Int)) (h1 : j ≤ l.length) (h2 : nd = (wordsOf (l.take j)).length) (h3 : nd ≤ cd) (h4 : cd ≤ 9223372036854775807) (h5 : D = none → cd = 0) (h55 : D = none ∨ ∃ g off, D = some ⟨g, off, none⟩) (h6 : Has wr D (fl (wordsOf (l.take j)))) (h7 : Later w wr) : VInv l w (.slice D nd cd) (.int .i64 i) wr := by
  subst hi; exact ⟨D, nd, cd, j, rfl, rfl, h1, h2, h3, h4, h5, h55, h6, h7⟩
/-- Where its inner loop stands. -/
def KInv (d : List Val3) (x : Val3) (w : World) (kv : Value) (wr : World) : Prop :=
  ∃ k : Nat, kv = .int .i64 (k : Int) ∧ k ≤ d.length ∧ (∀ a (h : a < d.length), a < k → cmp3 d[a] x < 0) ∧ Later w wr
theorem KInv.mk {d : List Val3} {x : Val3} {w wr : World} (k : Nat) (i : Int) (hi : i = (k : Int)) (h1 : k ≤ d.length) (h2 : ∀ a (h : a < d.length), a < k → cmp3 d[a] x < 0) (h3 : Later w wr) : KInv d x w (.int .i64 i) wr := by
  subst hi; exact ⟨k, rfl, h1, h2, h3⟩

set_option maxRecDepth 100000 in
set_option maxHeartbeats 4000000 in
theorem refValues_any (A : Option Addr) (n c : Nat) (l : List Val3) (w : World) (hn : n = l.length) (hl : l.length ≤ 1000) (hr : Has w A (fl l)) :
    Calls Tryz.prog 57 #[.slice A n c] w fun e w' => ∃ D nd cd, e = .returned (.slice D nd cd) ∧ nd = (wordsOf l).length ∧ Has w' D (fl (wordsOf l)) ∧ Later w w' := by
  have HR := Lib.hid hr
  have HN := Lib.hid hn
  have hn9 : n ≤ 1000 := by omega
  have mixed : Tryz.prog.follows .mixedOrders = true := by kernel_rfl
  clear hr hn hl
  go_enter Tryz.func57, Tryz.ntmps57
  go_wp2_with fail
  go_loopw [3, 4] (fun ov iv wr => VInv l w ov iv wr) (fun _ iv _ => n - (intOf iv).toNat)
  case atStart => exact VInv.mk none 0 0 0 _ rfl (Nat.zero_le _) rfl (Nat.le_refl _) (by decide) (fun _ => rfl) (.inl rfl) Has.nil_ (Later.refl _)
  case round =>
    obtain ⟨D, nd, cd, j, rfl, rfl, hj, hnd, hndc, hcm, hnil, hsh, hdh, lat⟩ := hrel
    by_cases hlt : j < n
    · have hjl : j < l.length := by have := HN.out; omega
      obtain ⟨d, hd⟩ : ∃ d, d = wordsOf (l.take j) := ⟨_, rfl⟩
      have HNEXT := Lib.hid (words_take hjl)
      have hd9 := words_len (l.take j)
      rw [List.length_take] at hd9
      rw [← hd] at hnd hdh HNEXT hd9
      obtain ⟨x, hx⟩ : ∃ x, x = l[j] := ⟨_, rfl⟩
      rw [← hx] at HNEXT
      obtain ⟨xb, xoff, hadr, x0, x1, x2⟩ := (HR.out.later lat).val3 j hjl
      rw [← hx] at x0 x1 x2
      have hxb := (HR.out.later lat)
      rw [hadr] at hxb
      have hxb := hxb.block hjl
      subst hadr
      have HND := Lib.hid hnd
      have HDH := Lib.hid hdh
      have LAT := Lib.hid lat
      have HNIL := Lib.hid hnil
      have HSH := Lib.hid hsh
      have X0 := Lib.hid (show CellIs wr ⟨xb, xoff + j * 3, none⟩ (.int .i64 x.1) from x0)
      have X1 := Lib.hid (show CellIs wr ⟨xb, xoff + j * 3 + 1, none⟩ (.int .i64 x.2.1) from x1)
      have X2 := Lib.hid (show CellIs wr ⟨xb, xoff + j * 3 + 2, none⟩ (.string x.2.2) from x2)
      have hnd9 : nd ≤ 1000 := by omega
      have HJL := Lib.hid hjl
      have hj0 : (0 : Int) ≤ (j : Int) := by omega
      have hj1 : (j : Int) < (n : Int) := by omega
      obtain ⟨wr0, hwr0⟩ : ∃ wr0, wr0 = wr := ⟨_, rfl⟩
      subst hwr0
      clear hd hnd hdh lat hnil hsh hx x0 x1 x2 hjl hj hd9
      go_wp2_with fail
      go_loopw [5] (fun kv wi => KInv d x wr0 kv wi) (fun kv _ => nd - (intOf kv).toNat)
      case atStart => exact KInv.mk 0 _ rfl (Nat.zero_le _) (fun a h ha => by omega) (Later.refl _)
      case round =>
        obtain ⟨k, rfl, hk, hall, lat⟩ := hrel
        have HALL := Lib.hid hall
        have LATI := Lib.hid lat
        have HK := Lib.hid hk
        have hbx : xb < wr.heap.size := Nat.lt_of_lt_of_le hxb lat.size
        have y0 := (X0.out.later lat).out
        have y1 := (X1.out.later lat).out
        have y2 := (X2.out.later lat).out
        have k0 := fun (q : Nat) (os : Array Obj) => Go.cell_grown (w := wr) hbx y0 q os
        have k1 := fun (q : Nat) (os : Array Obj) => Go.cell_grown (w := wr) hbx y1 q os
        have k2 := fun (q : Nat) (os : Array Obj) => Go.cell_grown (w := wr) hbx y2 q os
        clear hall lat hk y0 y1 y2
        by_cases hkn : k < nd
        · have hkd : k < d.length := by have := HND.out; omega
          have hki : decide ((k : Int) < (nd : Int)) = true := decide_eq_true (by omega)
          obtain ⟨db, doff, hdadr, c0, c1, c2⟩ := (HDH.out.later LATI.out).val3 k hkd
          have hdb := (HDH.out.later LATI.out)
          rw [hdadr] at hdb
          have hdb := hdb.block hkd
          subst hdadr
          obtain ⟨r, hr⟩ : ∃ r, r = cmp3 d[k] x := ⟨_, rfl⟩
          have HCG := Lib.hid (fun (q : Nat) (os : Array Obj) => refCmp_q d[k] x (Go.Sort.grow (wr.drewN q) os))
          rw [← hr] at HCG
          have HRR := Lib.hid hr
          have HRV := Lib.hid (show cmp3 (d[k].1, d[k].2.1, d[k].2.2) x = r from hr.symm)
          generalize d[k].1 = dt at c0 HCG HRV
          generalize d[k].2.1 = di at c1 HCG HRV
          generalize d[k].2.2 = ds at c2 HCG HRV
          have m0 := fun (q : Nat) (os : Array Obj) => Go.cell_grown (w := wr) hdb c0 q os
          have m1 := fun (q : Nat) (os : Array Obj) => Go.cell_grown (w := wr) hdb c1 q os
          have m2 := fun (q : Nat) (os : Array Obj) => Go.cell_grown (w := wr) hdb c2 q os
          have i0 : (0 : Int) ≤ (k : Int) := by omega
          have i1 : (k : Int) < (nd : Int) := by omega
          have C0 := Lib.hid (show CellIs wr ⟨db, doff + k * 3, none⟩ (.int .i64 dt) from c0)
          have C1 := Lib.hid (show CellIs wr ⟨db, doff + k * 3 + 1, none⟩ (.int .i64 di) from c1)
          have C2 := Lib.hid (show CellIs wr ⟨db, doff + k * 3 + 2, none⟩ (.string ds) from c2)
          clear c0 c1 c2 hr
          by_cases hneg : r < 0
          · go_wp2_with fail
            go_quiet_grown (first | (go_at_call 76; refine Go.Calls.grown_of (HCG.out _ _)))
            go_wp2_with fail
            go_roundw
            case rel =>
              refine KInv.mk (k + 1) _ (by omega) (by omega) (fun a hal hah => ?_) (LATI.out.trans (grow_laterR _ _ _))
              rcases Nat.lt_or_ge a k with h' | h'
              · exact HALL.out a hal h'
              · obtain rfl : a = k := by omega
                rw [← HRR.out]; exact hneg
            case measure => simp [intOf]; omega
          · have HAT := Lib.hid (insV_at x d k HK.out HALL.out (fun h => by rw [← HRR.out]; exact hneg))
            go_wp2_with fail
            go_quiet_grown (first | (go_at_call 76; refine Go.Calls.grown_of (HCG.out _ _)))
            go_wp2_with fail
            obtain ⟨wz, hwz⟩ : ∃ wz, wz = Go.Sort.grow (wr.drewN nq) osq := ⟨_, rfl⟩
            have LWZ := Lib.hid (show Later wr wz from hwz ▸ grow_laterR _ _ _)
            rw [← hwz]
            have LZ := Lib.hid (LATI.out.trans LWZ.out)
            clear hwz k0 k1 k2 m0 m1 m2 HCG
            have hbx : xb < wz.heap.size := Nat.lt_of_lt_of_le hxb LZ.out.size
            have hdb : db < wz.heap.size := Nat.lt_of_lt_of_le hdb LWZ.out.size
            have HCG := Lib.hid (fun (q : Nat) (os : Array Obj) => refCmp_q (dt, di, ds) x (Go.Sort.grow (wz.drewN q) os))
            rw [show cmp3 (dt, di, ds) x = r from HRV.out] at HCG
            have y0 := (X0.out.later LZ.out).out
            have y1 := (X1.out.later LZ.out).out
            have y2 := (X2.out.later LZ.out).out
            have z0 := (C0.out.later LWZ.out).out
            have z1 := (C1.out.later LWZ.out).out
            have z2 := (C2.out.later LWZ.out).out
            have k0 := fun (q : Nat) (os : Array Obj) => Go.cell_grown (w := wz) hbx y0 q os
            have k1 := fun (q : Nat) (os : Array Obj) => Go.cell_grown (w := wz) hbx y1 q os
            have k2 := fun (q : Nat) (os : Array Obj) => Go.cell_grown (w := wz) hbx y2 q os
            have m0 := fun (q : Nat) (os : Array Obj) => Go.cell_grown (w := wz) hdb z0 q os
            have m1 := fun (q : Nat) (os : Array Obj) => Go.cell_grown (w := wz) hdb z1 q os
            have m2 := fun (q : Nat) (os : Array Obj) => Go.cell_grown (w := wz) hdb z2 q os
            clear y0 y1 y2 z0 z1 z2
            have hkn2 : ((k : Int) == (nd : Int)) = false := by rw [beq_eq_false_iff_ne]; omega
            by_cases h0 : r = 0
            · have HD := Lib.hid (HNEXT.out.trans (HAT.out.1 hkd (by rw [← HRR.out]; exact h0)))
              have hr0 : (r != 0) = false := by simp [h0]
              have HND1 := Lib.hid (show nd = (wordsOf (l.take (j + 1))).length by rw [HD.out]; exact HND.out)
              have HDH1 := Lib.hid (show Has wz (some ⟨db, doff, none⟩) (fl (wordsOf (l.take (j + 1)))) by rw [HD.out]; exact HDH.out.later LZ.out)
              clear h0
              go_wp2_with fail
              go_quiet_grown (first | (go_at_call 76; refine Go.Calls.grown_of (HCG.out _ _)))
              go_wp2_with fail
              go_roundw
              case rel => exact VInv.mk _ _ _ (j + 1) _ (by omega) HJL.out HND1.out hndc hcm HNIL.out HSH.out (HDH1.out.later (grow_laterR _ _ _)) ((LAT.out.trans LZ.out).trans (grow_laterR _ _ _))
              case measure => simp [intOf]; omega
            · have hr0 : (r != 0) = true := by simp [h0]
              have HD := Lib.hid (HNEXT.out.trans (HAT.out.2 (fun h => by rw [← HRR.out]; exact h0)))
              clear h0
              go_wp2_with fail
              go_quiet_grown (first | (go_at_call 76; refine Go.Calls.grown_of (HCG.out _ _)))
              go_wp2_with fail
              obtain ⟨wy, hwy⟩ : ∃ wy, wy = Go.Sort.grow (wz.drewN nq) osq := ⟨_, rfl⟩
              have LZY := Lib.hid (show Later wz wy from hwy ▸ grow_laterR _ _ _)
              rw [← hwy]
              clear hwy k0 k1 k2 m0 m1 m2 HCG
              have LY := Lib.hid (LZ.out.trans LZY.out)
              have a0 := (X0.out.later LY.out).out
              have a1 := (X1.out.later LY.out).out
              have a2 := (X2.out.later LY.out).out
              have e0 := ((X0.out.later LY.out).later (Later.new wy (.cells #[] 26))).drew.out
              have e1 := ((X1.out.later LY.out).later (Later.new wy (.cells #[] 26))).drew.out
              have e2 := ((X2.out.later LY.out).later (Later.new wy (.cells #[] 26))).drew.out
              have hkc : (k : Int) ≤ (cd : Int) := by omega
              have hk00 : (0 : Int) ≤ (k : Int) := by omega
              have hk01 : (k : Int) ≤ (nd : Int) := by have := HK.out; have := HND.out; omega
              have HDY := Lib.hid (HDH.out.later LY.out)
              have HDK := Lib.hid (show Has wy (some ⟨db, doff, none⟩) (fl (d.take k)) by rw [fl_take]; exact HDY.out.take _)
              have HDP := Lib.hid (show Has wy (some ⟨db, doff + k * 3, none⟩) (fl (d.drop k)) by have h := HDY.out.drop (k * 3); rw [← fl_drop] at h; exact h)
              have hck : ¬ cd = k := by omega
              have HDE := Lib.hid (show fl ([] : List Val3) = [] from rfl)
              have HLEN := Lib.hid (show (wordsOf (l.take (j + 1))).length = k + 1 + (nd - k) by rw [HD.out]; simp; have := HK.out; have := HND.out; omega)
              have HCEL := Lib.hid (show fl (wordsOf (l.take (j + 1))) = fl (d.take k) ++ fl [x] ++ fl (d.drop k) by rw [HD.out, fl_append, fl_append, List.append_assoc])
              go_region_law (first
                | (refine step_append_gn (by rfl) (.tmp 46) (.tmp 49) 23 (by rfl) wy.heap.size 26 (vagg 0 0 ⟨#[]⟩) 3 32 Tryz.underlying23 info_v rfl (by decide) _ 0 [] (by rfl) (Blk.ownG (cs := []) ?_ ?_ rfl (by decide)) _ k cd (fl (d.take k)) (by rfl) (HDK.out.later ?_) ?_ HNIL.out (fl_one _) ?_ ?_ ?_ ?_; (focus (repeat (first | exact Blk.new _ _ _ _ rfl | exact Blk.new _ _ _ _ (by simp) | with_reducible refine Blk.drew ?_ | with_reducible refine Blk.later ?_ (Later.new _ _))); done); (focus (first | exact Nat.le_refl _ | (simp; done) | (simp; omega))); (focus (repeat (first | with_reducible exact Later.refl _ | with_reducible refine Later.drew ?_ | with_reducible refine Later.alloc ?_ _))); (rw [fl_length, List.length_take]; have := HK.out; omega); (unfold maxLen; omega); omega; (refine Later.size ?_; (focus (repeat (first | with_reducible exact Later.refl _ | with_reducible refine Later.drew ?_ | with_reducible refine Later.alloc ?_ _)))); intro A2 c2 w2 o2 g2 b2 n2; simp only [Nat.zero_add, List.nil_append] at o2; have HO2 := Lib.hid o2; have HG2 := Lib.hid g2; have L2 := Lib.hid (show Later wy w2 from Later.of (Below.trans (Later.below (by (focus (repeat (first | with_reducible exact Later.refl _ | with_reducible refine Later.drew ?_ | with_reducible refine Later.alloc ?_ _))))) b2)); have a0 := (X0.out.later (LY.out.trans L2.out)).out; have a1 := (X1.out.later (LY.out.trans L2.out)).out; have a2 := (X2.out.later (LY.out.trans L2.out)).out; clear o2 g2 b2 n2)
                | (refine step_append_gn (by rfl) (.tmp 50) (.tmp 55) 23 (by rfl) wy.heap.size 26 (vagg 0 0 ⟨#[]⟩) 3 32 Tryz.underlying23 info_v rfl (by decide) _ _ _ (by rfl) (own_later HO2.out ?_) _ 1 1 (fl [x]) (by rfl) (Blk.has (t := 26) ?_) rfl (by intro h; cases h) (fl_one _) ?_ ?_ ?_ ?_; (focus (repeat (first | with_reducible exact Later.refl _ | with_reducible refine Later.drew ?_ | with_reducible refine Later.alloc ?_ _))); (change Blk _ _ #[.int .i64 x.1, .int .i64 x.2.1, .string x.2.2] _); (first | (focus (repeat (first | exact Blk.new _ _ _ _ rfl | exact Blk.new _ _ _ _ (by simp) | with_reducible refine Blk.drew ?_ | with_reducible refine Blk.later ?_ (Later.new _ _))); done) | (refine blk_grown HG2.out ?_ ?_; (focus (repeat (first | exact Blk.new _ _ _ _ rfl | exact Blk.new _ _ _ _ (by simp) | with_reducible refine Blk.drew ?_ | with_reducible refine Blk.later ?_ (Later.new _ _))); done); (first | (focus (intro h; injection h with h; simp at h; done)) | (focus (intro h; injection h with h; simp at h; omega))))); (unfold maxLen; omega); omega; (refine Later.size ?_; (focus (repeat (first | with_reducible exact L2.out | with_reducible refine Later.drew ?_ | with_reducible refine Later.alloc ?_ _)))); intro A3 c3 w3 o3 g3 b3 n3; have HO3 := Lib.hid o3; have L3 := Lib.hid (show Later wy w3 from Later.of (Below.trans (Later.below (by (focus (repeat (first | with_reducible exact L2.out | with_reducible refine Later.drew ?_ | with_reducible refine Later.alloc ?_ _))))) b3)); have a0 := (X0.out.later (LY.out.trans L3.out)).out; have a1 := (X1.out.later (LY.out.trans L3.out)).out; have a2 := (X2.out.later (LY.out.trans L3.out)).out; clear o3 g3 b3 n3)
                | (refine step_append_gn (by rfl) (.tmp 56) (.tmp 59) 23 (by rfl) wy.heap.size 26 (vagg 0 0 ⟨#[]⟩) 3 32 Tryz.underlying23 info_v rfl (by decide) _ _ _ (by rfl) (own_later HO3.out ?_) _ _ _ (fl (d.drop k)) (by rfl) ?_ ?_ ?_ (fl_one _) ?_ ?_ ?_ ?_; (focus (repeat (first | with_reducible exact Later.refl _ | with_reducible refine Later.drew ?_ | with_reducible refine Later.alloc ?_ _))); (first | (refine HDP.out.later ?_; (focus (repeat (first | with_reducible exact L3.out | with_reducible refine Later.drew ?_ | with_reducible refine Later.alloc ?_ _)))) | (rw [HDE.out]; exact Has.nil_)); (rw [fl_length, List.length_drop]; have := HND.out; have := HK.out; omega); (focus (first | (intro h; cases h; done) | exact fun _ => rfl | (intro _; omega))); (unfold maxLen; have := HK.out; have := HND.out; omega); (have := HK.out; have := HND.out; omega); (refine Later.size ?_; (focus (repeat (first | with_reducible exact L3.out | with_reducible refine Later.drew ?_ | with_reducible refine Later.alloc ?_ _)))); intro A4 c4 w4 o4 g4 b4 n4; have HO4 := Lib.hid o4; have HN4 := Lib.hid n4; have L4 := Lib.hid (show Later wy w4 from Later.of (Below.trans (Later.below (by (focus (repeat (first | with_reducible exact L3.out | with_reducible refine Later.drew ?_ | with_reducible refine Later.alloc ?_ _))))) b4)); clear o4 g4 b4 n4))
              all_goals try simp only [Exit.then, Exit.inBlock]
              all_goals try simp [Act.put]
              all_goals go_wp2_with fail
              all_goals go_roundw
              all_goals (try (simp [intOf]; omega))
              all_goals first
                | exact VInv.mk A4 _ c4 (j + 1) _ (by omega) HJL.out (by have := HLEN.out; omega) (by have := ownG_cap HO4.out; omega) (ownG_capmax HO4.out) HN4.out (ownG_addr HO4.out) (by rw [HCEL.out]; exact Has.ownG HO4.out) ((LAT.out.trans LY.out).trans L4.out)
        · have hkk : k = nd := by have := HK.out; have := HND.out; omega
          have HAT := Lib.hid (insV_at x d k HK.out HALL.out (fun h => by have := HND.out; omega))
          have hki : decide ((k : Int) < (nd : Int)) = false := decide_eq_false (by omega)
          rcases D with _ | ⟨db, doff, dinn⟩
          · have hd0 : d = [] := by
              rcases HDH.out with h | ⟨_, _, h, _⟩
              · have h := congrArg List.length h
                rw [fl_length] at h
                have h : d.length * 3 = 0 := h
                exact List.eq_nil_of_length_eq_zero (by omega)
              · cases h
            have hn0 : nd = 0 := by have := HND.out; rw [hd0] at this; exact this
            have hc0 : cd = 0 := HNIL.out rfl
            have hck : k = cd := by omega
            have HK0 := Lib.hid (show k = 0 by omega)
            clear hc0 hn0 hd0
            subst hck
            have HD := Lib.hid (HNEXT.out.trans (HAT.out.2 (fun h => by have := HND.out; omega)))
            have hke : ((k : Int) == (nd : Int)) = true := by simp [hkk]
            have hck0 : k ≤ k := by omega
            have hkiN : decide (k < nd) = false := decide_eq_false (by omega)
            have hkiN2 : ¬ k < nd := by omega
            have HKK := Lib.hid hkk
            clear k0 k1 k2 hkn hkk
            go_wp2_with fail
            go_quiet (fail)
            go_wp2_with fail
            obtain ⟨wz, hwz⟩ : ∃ wz, wz = wr.drewN nq := ⟨_, rfl⟩
            have LZ := Lib.hid (show Later wr0 wz from hwz ▸ LATI.out.drewN nq)
            rw [← hwz]
            clear hwz
            go_quiet (fail)
            go_wp2_with fail
            obtain ⟨wy, hwy⟩ : ∃ wy, wy = wz.drewN nq := ⟨_, rfl⟩
            have LY := Lib.hid (show Later wr0 wy from hwy ▸ LZ.out.drewN nq)
            rw [← hwy]
            clear hwy
            have a0 := (X0.out.later LY.out).out
            have a1 := (X1.out.later LY.out).out
            have a2 := (X2.out.later LY.out).out
            have e0 := ((X0.out.later LY.out).later (Later.new wy (.cells #[] 26))).drew.out
            have e1 := ((X1.out.later LY.out).later (Later.new wy (.cells #[] 26))).drew.out
            have e2 := ((X2.out.later LY.out).later (Later.new wy (.cells #[] 26))).drew.out
            have hkc : (k : Int) ≤ (k : Int) := by omega
            have hk00 : (0 : Int) ≤ (k : Int) := by omega
            have hk01 : (k : Int) ≤ (nd : Int) := by have := HK.out; have := HND.out; omega
            have HDY := Lib.hid (HDH.out.later LY.out)
            have HDK := Lib.hid (show Has wy none (fl (d.take k)) by rw [fl_take]; exact HDY.out.take _)
            have HDE := Lib.hid (show fl (d.drop k) = [] by rw [List.drop_of_length_le (by have := HND.out; have := HKK.out; omega)]; rfl)
            have HLEN := Lib.hid (show (wordsOf (l.take (j + 1))).length = k + 1 + (nd - k) by rw [HD.out]; simp; have := HK.out; have := HND.out; omega)
            have HCEL := Lib.hid (show fl (wordsOf (l.take (j + 1))) = fl (d.take k) ++ fl [x] ++ fl (d.drop k) by rw [HD.out, fl_append, fl_append, List.append_assoc])
            go_region_law (first
              | (refine step_append_gn (by rfl) (.tmp 46) (.tmp 49) 23 (by rfl) wy.heap.size 26 (vagg 0 0 ⟨#[]⟩) 3 32 Tryz.underlying23 info_v rfl (by decide) _ 0 [] (by rfl) (Blk.ownG (cs := []) ?_ ?_ rfl (by decide)) _ k k (fl (d.take k)) (by rfl) (HDK.out.later ?_) ?_ (fun _ => HK0.out) (fl_one _) ?_ ?_ ?_ ?_; (focus (repeat (first | exact Blk.new _ _ _ _ rfl | exact Blk.new _ _ _ _ (by simp) | with_reducible refine Blk.drew ?_ | with_reducible refine Blk.later ?_ (Later.new _ _))); done); (focus (first | exact Nat.le_refl _ | (simp; done) | (simp; omega))); (focus (repeat (first | with_reducible exact Later.refl _ | with_reducible refine Later.drew ?_ | with_reducible refine Later.alloc ?_ _))); (rw [fl_length, List.length_take]; have := HK.out; omega); (unfold maxLen; omega); omega; (refine Later.size ?_; (focus (repeat (first | with_reducible exact Later.refl _ | with_reducible refine Later.drew ?_ | with_reducible refine Later.alloc ?_ _)))); intro A2 c2 w2 o2 g2 b2 n2; simp only [Nat.zero_add, List.nil_append] at o2; have HO2 := Lib.hid o2; have HG2 := Lib.hid g2; have L2 := Lib.hid (show Later wy w2 from Later.of (Below.trans (Later.below (by (focus (repeat (first | with_reducible exact Later.refl _ | with_reducible refine Later.drew ?_ | with_reducible refine Later.alloc ?_ _))))) b2)); have a0 := (X0.out.later (LY.out.trans L2.out)).out; have a1 := (X1.out.later (LY.out.trans L2.out)).out; have a2 := (X2.out.later (LY.out.trans L2.out)).out; clear o2 g2 b2 n2)
              | (refine step_append_gn (by rfl) (.tmp 50) (.tmp 55) 23 (by rfl) wy.heap.size 26 (vagg 0 0 ⟨#[]⟩) 3 32 Tryz.underlying23 info_v rfl (by decide) _ _ _ (by rfl) (own_later HO2.out ?_) _ 1 1 (fl [x]) (by rfl) (Blk.has (t := 26) ?_) rfl (by intro h; cases h) (fl_one _) ?_ ?_ ?_ ?_; (focus (repeat (first | with_reducible exact Later.refl _ | with_reducible refine Later.drew ?_ | with_reducible refine Later.alloc ?_ _))); (change Blk _ _ #[.int .i64 x.1, .int .i64 x.2.1, .string x.2.2] _); (first | (focus (repeat (first | exact Blk.new _ _ _ _ rfl | exact Blk.new _ _ _ _ (by simp) | with_reducible refine Blk.drew ?_ | with_reducible refine Blk.later ?_ (Later.new _ _))); done) | (refine blk_grown HG2.out ?_ ?_; (focus (repeat (first | exact Blk.new _ _ _ _ rfl | exact Blk.new _ _ _ _ (by simp) | with_reducible refine Blk.drew ?_ | with_reducible refine Blk.later ?_ (Later.new _ _))); done); (first | (focus (intro h; injection h with h; simp at h; done)) | (focus (intro h; injection h with h; simp at h; omega))))); (unfold maxLen; omega); omega; (refine Later.size ?_; (focus (repeat (first | with_reducible exact L2.out | with_reducible refine Later.drew ?_ | with_reducible refine Later.alloc ?_ _)))); intro A3 c3 w3 o3 g3 b3 n3; have HO3 := Lib.hid o3; have L3 := Lib.hid (show Later wy w3 from Later.of (Below.trans (Later.below (by (focus (repeat (first | with_reducible exact L2.out | with_reducible refine Later.drew ?_ | with_reducible refine Later.alloc ?_ _))))) b3)); have a0 := (X0.out.later (LY.out.trans L3.out)).out; have a1 := (X1.out.later (LY.out.trans L3.out)).out; have a2 := (X2.out.later (LY.out.trans L3.out)).out; clear o3 g3 b3 n3)
              | (refine step_append_gn (by rfl) (.tmp 56) (.tmp 59) 23 (by rfl) wy.heap.size 26 (vagg 0 0 ⟨#[]⟩) 3 32 Tryz.underlying23 info_v rfl (by decide) _ _ _ (by rfl) (own_later HO3.out ?_) _ _ _ (fl (d.drop k)) (by rfl) ?_ ?_ ?_ (fl_one _) ?_ ?_ ?_ ?_; (focus (repeat (first | with_reducible exact Later.refl _ | with_reducible refine Later.drew ?_ | with_reducible refine Later.alloc ?_ _))); (first | (refine HDP.out.later ?_; (focus (repeat (first | with_reducible exact L3.out | with_reducible refine Later.drew ?_ | with_reducible refine Later.alloc ?_ _)))) | (rw [HDE.out]; exact Has.nil_)); (rw [fl_length, List.length_drop]; have := HND.out; have := HK.out; omega); (focus (first | (intro h; cases h; done) | exact fun _ => rfl | (intro _; omega))); (unfold maxLen; have := HK.out; have := HND.out; omega); (have := HK.out; have := HND.out; omega); (refine Later.size ?_; (focus (repeat (first | with_reducible exact L3.out | with_reducible refine Later.drew ?_ | with_reducible refine Later.alloc ?_ _)))); intro A4 c4 w4 o4 g4 b4 n4; have HO4 := Lib.hid o4; have HN4 := Lib.hid n4; have L4 := Lib.hid (show Later wy w4 from Later.of (Below.trans (Later.below (by (focus (repeat (first | with_reducible exact L3.out | with_reducible refine Later.drew ?_ | with_reducible refine Later.alloc ?_ _))))) b4)); clear o4 g4 b4 n4))
            all_goals try simp only [Exit.then, Exit.inBlock]
            all_goals try simp [Act.put]
            all_goals go_wp2_with fail
            all_goals go_roundw
            all_goals (try (simp [intOf]; omega))
            all_goals first
              | exact VInv.mk A4 _ c4 (j + 1) _ (by omega) HJL.out (by have := HLEN.out; omega) (by have := ownG_cap HO4.out; omega) (ownG_capmax HO4.out) HN4.out (ownG_addr HO4.out) (by rw [HCEL.out]; exact Has.ownG HO4.out) ((LAT.out.trans LY.out).trans L4.out)
          · obtain rfl : dinn = none := by
              rcases HSH.out with h | ⟨_, _, h⟩
              · cases h
              · injection h with h; injection h
            by_cases hck : k = cd
            · subst hck
              have HD := Lib.hid (HNEXT.out.trans (HAT.out.2 (fun h => by have := HND.out; omega)))
              have hke : ((k : Int) == (nd : Int)) = true := by simp [hkk]
              have hck0 : k ≤ k := by omega
              have hkiN : decide (k < nd) = false := decide_eq_false (by omega)
              have hkiN2 : ¬ k < nd := by omega
              have HKK := Lib.hid hkk
              clear k0 k1 k2 hkn hkk
              go_wp2_with fail
              go_quiet (fail)
              go_wp2_with fail
              obtain ⟨wz, hwz⟩ : ∃ wz, wz = wr.drewN nq := ⟨_, rfl⟩
              have LZ := Lib.hid (show Later wr0 wz from hwz ▸ LATI.out.drewN nq)
              rw [← hwz]
              clear hwz
              go_quiet (fail)
              go_wp2_with fail
              obtain ⟨wy, hwy⟩ : ∃ wy, wy = wz.drewN nq := ⟨_, rfl⟩
              have LY := Lib.hid (show Later wr0 wy from hwy ▸ LZ.out.drewN nq)
              rw [← hwy]
              clear hwy
              have a0 := (X0.out.later LY.out).out
              have a1 := (X1.out.later LY.out).out
              have a2 := (X2.out.later LY.out).out
              have e0 := ((X0.out.later LY.out).later (Later.new wy (.cells #[] 26))).drew.out
              have e1 := ((X1.out.later LY.out).later (Later.new wy (.cells #[] 26))).drew.out
              have e2 := ((X2.out.later LY.out).later (Later.new wy (.cells #[] 26))).drew.out
              have hkc : (k : Int) ≤ (k : Int) := by omega
              have hk00 : (0 : Int) ≤ (k : Int) := by omega
              have hk01 : (k : Int) ≤ (nd : Int) := by have := HK.out; have := HND.out; omega
              have HDY := Lib.hid (HDH.out.later LY.out)
              have HDK := Lib.hid (show Has wy (some ⟨db, doff, none⟩) (fl (d.take k)) by rw [fl_take]; exact HDY.out.take _)
              have HDP := Lib.hid (show Has wy (some ⟨db, doff + k * 3, none⟩) (fl (d.drop k)) by have h := HDY.out.drop (k * 3); rw [← fl_drop] at h; exact h)
              have HDE := Lib.hid (show fl (d.drop k) = [] by rw [List.drop_of_length_le (by have := HND.out; have := HKK.out; omega)]; rfl)
              have HLEN := Lib.hid (show (wordsOf (l.take (j + 1))).length = k + 1 + (nd - k) by rw [HD.out]; simp; have := HK.out; have := HND.out; omega)
              have HCEL := Lib.hid (show fl (wordsOf (l.take (j + 1))) = fl (d.take k) ++ fl [x] ++ fl (d.drop k) by rw [HD.out, fl_append, fl_append, List.append_assoc])
              go_region_law (first
                | (refine step_append_gn (by rfl) (.tmp 46) (.tmp 49) 23 (by rfl) wy.heap.size 26 (vagg 0 0 ⟨#[]⟩) 3 32 Tryz.underlying23 info_v rfl (by decide) _ 0 [] (by rfl) (Blk.ownG (cs := []) ?_ ?_ rfl (by decide)) _ k k (fl (d.take k)) (by rfl) (HDK.out.later ?_) ?_ HNIL.out (fl_one _) ?_ ?_ ?_ ?_; (focus (repeat (first | exact Blk.new _ _ _ _ rfl | exact Blk.new _ _ _ _ (by simp) | with_reducible refine Blk.drew ?_ | with_reducible refine Blk.later ?_ (Later.new _ _))); done); (focus (first | exact Nat.le_refl _ | (simp; done) | (simp; omega))); (focus (repeat (first | with_reducible exact Later.refl _ | with_reducible refine Later.drew ?_ | with_reducible refine Later.alloc ?_ _))); (rw [fl_length, List.length_take]; have := HK.out; omega); (unfold maxLen; omega); omega; (refine Later.size ?_; (focus (repeat (first | with_reducible exact Later.refl _ | with_reducible refine Later.drew ?_ | with_reducible refine Later.alloc ?_ _)))); intro A2 c2 w2 o2 g2 b2 n2; simp only [Nat.zero_add, List.nil_append] at o2; have HO2 := Lib.hid o2; have HG2 := Lib.hid g2; have L2 := Lib.hid (show Later wy w2 from Later.of (Below.trans (Later.below (by (focus (repeat (first | with_reducible exact Later.refl _ | with_reducible refine Later.drew ?_ | with_reducible refine Later.alloc ?_ _))))) b2)); have a0 := (X0.out.later (LY.out.trans L2.out)).out; have a1 := (X1.out.later (LY.out.trans L2.out)).out; have a2 := (X2.out.later (LY.out.trans L2.out)).out; clear o2 g2 b2 n2)
                | (refine step_append_gn (by rfl) (.tmp 50) (.tmp 55) 23 (by rfl) wy.heap.size 26 (vagg 0 0 ⟨#[]⟩) 3 32 Tryz.underlying23 info_v rfl (by decide) _ _ _ (by rfl) (own_later HO2.out ?_) _ 1 1 (fl [x]) (by rfl) (Blk.has (t := 26) ?_) rfl (by intro h; cases h) (fl_one _) ?_ ?_ ?_ ?_; (focus (repeat (first | with_reducible exact Later.refl _ | with_reducible refine Later.drew ?_ | with_reducible refine Later.alloc ?_ _))); (change Blk _ _ #[.int .i64 x.1, .int .i64 x.2.1, .string x.2.2] _); (first | (focus (repeat (first | exact Blk.new _ _ _ _ rfl | exact Blk.new _ _ _ _ (by simp) | with_reducible refine Blk.drew ?_ | with_reducible refine Blk.later ?_ (Later.new _ _))); done) | (refine blk_grown HG2.out ?_ ?_; (focus (repeat (first | exact Blk.new _ _ _ _ rfl | exact Blk.new _ _ _ _ (by simp) | with_reducible refine Blk.drew ?_ | with_reducible refine Blk.later ?_ (Later.new _ _))); done); (first | (focus (intro h; injection h with h; simp at h; done)) | (focus (intro h; injection h with h; simp at h; omega))))); (unfold maxLen; omega); omega; (refine Later.size ?_; (focus (repeat (first | with_reducible exact L2.out | with_reducible refine Later.drew ?_ | with_reducible refine Later.alloc ?_ _)))); intro A3 c3 w3 o3 g3 b3 n3; have HO3 := Lib.hid o3; have L3 := Lib.hid (show Later wy w3 from Later.of (Below.trans (Later.below (by (focus (repeat (first | with_reducible exact L2.out | with_reducible refine Later.drew ?_ | with_reducible refine Later.alloc ?_ _))))) b3)); have a0 := (X0.out.later (LY.out.trans L3.out)).out; have a1 := (X1.out.later (LY.out.trans L3.out)).out; have a2 := (X2.out.later (LY.out.trans L3.out)).out; clear o3 g3 b3 n3)
                | (refine step_append_gn (by rfl) (.tmp 56) (.tmp 59) 23 (by rfl) wy.heap.size 26 (vagg 0 0 ⟨#[]⟩) 3 32 Tryz.underlying23 info_v rfl (by decide) _ _ _ (by rfl) (own_later HO3.out ?_) _ _ _ (fl (d.drop k)) (by rfl) ?_ ?_ ?_ (fl_one _) ?_ ?_ ?_ ?_; (focus (repeat (first | with_reducible exact Later.refl _ | with_reducible refine Later.drew ?_ | with_reducible refine Later.alloc ?_ _))); (first | (refine HDP.out.later ?_; (focus (repeat (first | with_reducible exact L3.out | with_reducible refine Later.drew ?_ | with_reducible refine Later.alloc ?_ _)))) | (rw [HDE.out]; exact Has.nil_)); (rw [fl_length, List.length_drop]; have := HND.out; have := HK.out; omega); (focus (first | (intro h; cases h; done) | exact fun _ => rfl | (intro _; omega))); (unfold maxLen; have := HK.out; have := HND.out; omega); (have := HK.out; have := HND.out; omega); (refine Later.size ?_; (focus (repeat (first | with_reducible exact L3.out | with_reducible refine Later.drew ?_ | with_reducible refine Later.alloc ?_ _)))); intro A4 c4 w4 o4 g4 b4 n4; have HO4 := Lib.hid o4; have HN4 := Lib.hid n4; have L4 := Lib.hid (show Later wy w4 from Later.of (Below.trans (Later.below (by (focus (repeat (first | with_reducible exact L3.out | with_reducible refine Later.drew ?_ | with_reducible refine Later.alloc ?_ _))))) b4)); clear o4 g4 b4 n4))
              all_goals try simp only [Exit.then, Exit.inBlock]
              all_goals try simp [Act.put]
              all_goals go_wp2_with fail
              all_goals go_roundw
              all_goals (try (simp [intOf]; omega))
              all_goals first
                | exact VInv.mk A4 _ c4 (j + 1) _ (by omega) HJL.out (by have := HLEN.out; omega) (by have := ownG_cap HO4.out; omega) (ownG_capmax HO4.out) HN4.out (ownG_addr HO4.out) (by rw [HCEL.out]; exact Has.ownG HO4.out) ((LAT.out.trans LY.out).trans L4.out)
            · have hck2 : ¬ cd = k := fun h => hck h.symm
              have HD := Lib.hid (HNEXT.out.trans (HAT.out.2 (fun h => by have := HND.out; omega)))
              have hke : ((k : Int) == (nd : Int)) = true := by simp [hkk]
              have hck0 : k ≤ cd := by omega
              have hkiN : decide (k < nd) = false := decide_eq_false (by omega)
              have hkiN2 : ¬ k < nd := by omega
              have HKK := Lib.hid hkk
              clear k0 k1 k2 hkn hkk
              go_wp2_with fail
              go_quiet (fail)
              go_wp2_with fail
              obtain ⟨wz, hwz⟩ : ∃ wz, wz = wr.drewN nq := ⟨_, rfl⟩
              have LZ := Lib.hid (show Later wr0 wz from hwz ▸ LATI.out.drewN nq)
              rw [← hwz]
              clear hwz
              go_quiet (fail)
              go_wp2_with fail
              obtain ⟨wy, hwy⟩ : ∃ wy, wy = wz.drewN nq := ⟨_, rfl⟩
              have LY := Lib.hid (show Later wr0 wy from hwy ▸ LZ.out.drewN nq)
              rw [← hwy]
              clear hwy
              have a0 := (X0.out.later LY.out).out
              have a1 := (X1.out.later LY.out).out
              have a2 := (X2.out.later LY.out).out
              have e0 := ((X0.out.later LY.out).later (Later.new wy (.cells #[] 26))).drew.out
              have e1 := ((X1.out.later LY.out).later (Later.new wy (.cells #[] 26))).drew.out
              have e2 := ((X2.out.later LY.out).later (Later.new wy (.cells #[] 26))).drew.out
              have hkc : (k : Int) ≤ (cd : Int) := by omega
              have hk00 : (0 : Int) ≤ (k : Int) := by omega
              have hk01 : (k : Int) ≤ (nd : Int) := by have := HK.out; have := HND.out; omega
              have HDY := Lib.hid (HDH.out.later LY.out)
              have HDK := Lib.hid (show Has wy (some ⟨db, doff, none⟩) (fl (d.take k)) by rw [fl_take]; exact HDY.out.take _)
              have HDP := Lib.hid (show Has wy (some ⟨db, doff + k * 3, none⟩) (fl (d.drop k)) by have h := HDY.out.drop (k * 3); rw [← fl_drop] at h; exact h)
              have HDE := Lib.hid (show fl (d.drop k) = [] by rw [List.drop_of_length_le (by have := HND.out; have := HKK.out; omega)]; rfl)
              have HLEN := Lib.hid (show (wordsOf (l.take (j + 1))).length = k + 1 + (nd - k) by rw [HD.out]; simp; have := HK.out; have := HND.out; omega)
              have HCEL := Lib.hid (show fl (wordsOf (l.take (j + 1))) = fl (d.take k) ++ fl [x] ++ fl (d.drop k) by rw [HD.out, fl_append, fl_append, List.append_assoc])
              go_region_law (first
                | (refine step_append_gn (by rfl) (.tmp 46) (.tmp 49) 23 (by rfl) wy.heap.size 26 (vagg 0 0 ⟨#[]⟩) 3 32 Tryz.underlying23 info_v rfl (by decide) _ 0 [] (by rfl) (Blk.ownG (cs := []) ?_ ?_ rfl (by decide)) _ k cd (fl (d.take k)) (by rfl) (HDK.out.later ?_) ?_ HNIL.out (fl_one _) ?_ ?_ ?_ ?_; (focus (repeat (first | exact Blk.new _ _ _ _ rfl | exact Blk.new _ _ _ _ (by simp) | with_reducible refine Blk.drew ?_ | with_reducible refine Blk.later ?_ (Later.new _ _))); done); (focus (first | exact Nat.le_refl _ | (simp; done) | (simp; omega))); (focus (repeat (first | with_reducible exact Later.refl _ | with_reducible refine Later.drew ?_ | with_reducible refine Later.alloc ?_ _))); (rw [fl_length, List.length_take]; have := HK.out; omega); (unfold maxLen; omega); omega; (refine Later.size ?_; (focus (repeat (first | with_reducible exact Later.refl _ | with_reducible refine Later.drew ?_ | with_reducible refine Later.alloc ?_ _)))); intro A2 c2 w2 o2 g2 b2 n2; simp only [Nat.zero_add, List.nil_append] at o2; have HO2 := Lib.hid o2; have HG2 := Lib.hid g2; have L2 := Lib.hid (show Later wy w2 from Later.of (Below.trans (Later.below (by (focus (repeat (first | with_reducible exact Later.refl _ | with_reducible refine Later.drew ?_ | with_reducible refine Later.alloc ?_ _))))) b2)); have a0 := (X0.out.later (LY.out.trans L2.out)).out; have a1 := (X1.out.later (LY.out.trans L2.out)).out; have a2 := (X2.out.later (LY.out.trans L2.out)).out; clear o2 g2 b2 n2)
                | (refine step_append_gn (by rfl) (.tmp 50) (.tmp 55) 23 (by rfl) wy.heap.size 26 (vagg 0 0 ⟨#[]⟩) 3 32 Tryz.underlying23 info_v rfl (by decide) _ _ _ (by rfl) (own_later HO2.out ?_) _ 1 1 (fl [x]) (by rfl) (Blk.has (t := 26) ?_) rfl (by intro h; cases h) (fl_one _) ?_ ?_ ?_ ?_; (focus (repeat (first | with_reducible exact Later.refl _ | with_reducible refine Later.drew ?_ | with_reducible refine Later.alloc ?_ _))); (change Blk _ _ #[.int .i64 x.1, .int .i64 x.2.1, .string x.2.2] _); (first | (focus (repeat (first | exact Blk.new _ _ _ _ rfl | exact Blk.new _ _ _ _ (by simp) | with_reducible refine Blk.drew ?_ | with_reducible refine Blk.later ?_ (Later.new _ _))); done) | (refine blk_grown HG2.out ?_ ?_; (focus (repeat (first | exact Blk.new _ _ _ _ rfl | exact Blk.new _ _ _ _ (by simp) | with_reducible refine Blk.drew ?_ | with_reducible refine Blk.later ?_ (Later.new _ _))); done); (first | (focus (intro h; injection h with h; simp at h; done)) | (focus (intro h; injection h with h; simp at h; omega))))); (unfold maxLen; omega); omega; (refine Later.size ?_; (focus (repeat (first | with_reducible exact L2.out | with_reducible refine Later.drew ?_ | with_reducible refine Later.alloc ?_ _)))); intro A3 c3 w3 o3 g3 b3 n3; have HO3 := Lib.hid o3; have L3 := Lib.hid (show Later wy w3 from Later.of (Below.trans (Later.below (by (focus (repeat (first | with_reducible exact L2.out | with_reducible refine Later.drew ?_ | with_reducible refine Later.alloc ?_ _))))) b3)); have a0 := (X0.out.later (LY.out.trans L3.out)).out; have a1 := (X1.out.later (LY.out.trans L3.out)).out; have a2 := (X2.out.later (LY.out.trans L3.out)).out; clear o3 g3 b3 n3)
                | (refine step_append_gn (by rfl) (.tmp 56) (.tmp 59) 23 (by rfl) wy.heap.size 26 (vagg 0 0 ⟨#[]⟩) 3 32 Tryz.underlying23 info_v rfl (by decide) _ _ _ (by rfl) (own_later HO3.out ?_) _ _ _ (fl (d.drop k)) (by rfl) ?_ ?_ ?_ (fl_one _) ?_ ?_ ?_ ?_; (focus (repeat (first | with_reducible exact Later.refl _ | with_reducible refine Later.drew ?_ | with_reducible refine Later.alloc ?_ _))); (first | (refine HDP.out.later ?_; (focus (repeat (first | with_reducible exact L3.out | with_reducible refine Later.drew ?_ | with_reducible refine Later.alloc ?_ _)))) | (rw [HDE.out]; exact Has.nil_)); (rw [fl_length, List.length_drop]; have := HND.out; have := HK.out; omega); (focus (first | (intro h; cases h; done) | exact fun _ => rfl | (intro _; omega))); (unfold maxLen; have := HK.out; have := HND.out; omega); (have := HK.out; have := HND.out; omega); (refine Later.size ?_; (focus (repeat (first | with_reducible exact L3.out | with_reducible refine Later.drew ?_ | with_reducible refine Later.alloc ?_ _)))); intro A4 c4 w4 o4 g4 b4 n4; have HO4 := Lib.hid o4; have HN4 := Lib.hid n4; have L4 := Lib.hid (show Later wy w4 from Later.of (Below.trans (Later.below (by (focus (repeat (first | with_reducible exact L3.out | with_reducible refine Later.drew ?_ | with_reducible refine Later.alloc ?_ _))))) b4)); clear o4 g4 b4 n4))
              all_goals try simp only [Exit.then, Exit.inBlock]
              all_goals try simp [Act.put]
              all_goals go_wp2_with fail
              all_goals go_roundw
              all_goals (try (simp [intOf]; omega))
              all_goals first
                | exact VInv.mk A4 _ c4 (j + 1) _ (by omega) HJL.out (by have := HLEN.out; omega) (by have := ownG_cap HO4.out; omega) (ownG_capmax HO4.out) HN4.out (ownG_addr HO4.out) (by rw [HCEL.out]; exact Has.ownG HO4.out) ((LAT.out.trans LY.out).trans L4.out)
    · have hjn : j = n := by have := HN.out; omega
      have HND := Lib.hid (show nd = (wordsOf l).length by rw [hnd, hjn, List.take_of_length_le (by have := HN.out; omega)])
      have HDH := Lib.hid (show Has wr D (fl (wordsOf l)) by rw [hjn, List.take_of_length_le (by have := HN.out; omega)] at hdh; exact hdh)
      have LAT := Lib.hid lat
      clear hnd hdh lat hjn hnil hsh
      go_wp2_with fail
      go_ret
      exact ⟨D, nd, cd, rfl, HND.out, HDH.out, LAT.out⟩
end Go.Proofs.YtldalkhmbpkjpaaGreatDoor

/- The walks of the reference's dict, and of Encode of a list of values. -/

namespace Go.Proofs.YtldalkhmbpkjpaaGreatDoor
open Go.RowKit
set_option linter.unusedVariables false

/-- Where dict's first loop stands. -/
def RDInv (pre : List Nat) (d : List Val3) (w3 : World) (bv iv : Value) (wr : World) : Prop :=
  ∃ (B : Option Addr) (n cb k : Nat), k ≤ d.length ∧ iv = .int .i64 k ∧ bv = .slice B n cb ∧ n = (pre ++ plainB (d.take k)).length ∧ wr.ownsRow w3.heap.size 5 1 (.slice B n cb) n (ints .u8 (pre ++ plainB (d.take k))) ∧ (B = none → cb = 0) ∧ Later w3 wr
theorem RDInv.mk {pre : List Nat} {d : List Val3} {w3 wr : World} (B : Option Addr) (n cb k : Nat) (i : Int) (hk : k ≤ d.length) (hi : i = (k : Int)) (hn : n = (pre ++ plainB (d.take k)).length) (ho : wr.ownsRow w3.heap.size 5 1 (.slice B n cb) n (ints .u8 (pre ++ plainB (d.take k)))) (hb : B = none → cb = 0) (lat : Later w3 wr) : RDInv pre d w3 (.slice B n cb) (.int .i64 i) wr := by
  subst hi; exact ⟨B, n, cb, k, hk, rfl, rfl, hn, ho, hb, lat⟩
/-- Where its second loop stands: of i values, and of the next one's place if k has passed it. -/
def atK (d l : List Val3) (i k : Nat) : List Nat := places d (l.take i) ++ (if h : i < l.length then (if placeOf d l[i] < k then [placeOf d l[i]] else []) else [])
theorem atK_zero (d l : List Val3) (i : Nat) : atK d l i 0 = places d (l.take i) := by
  unfold atK
  split
  · rw [if_neg (Nat.not_lt_zero _), List.append_nil]
  · rw [List.append_nil]
theorem atK_end {d l : List Val3} {i : Nat} (h : i < l.length) (hp : placeOf d l[i] < d.length) : atK d l i d.length = places d (l.take (i + 1)) := by
  unfold atK
  rw [dif_pos h, if_pos hp, List.take_succ_eq_append_getElem h]
  unfold places
  rw [List.map_append]
  rfl
theorem atK_yes {d l : List Val3} {i k : Nat} (h : i < l.length) (hp : k = placeOf d l[i]) : atK d l i (k + 1) = atK d l i k ++ [k] := by
  unfold atK
  rw [dif_pos h, dif_pos h, if_pos (by omega), if_neg (by omega), List.append_nil, hp]
theorem atK_no {d l : List Val3} {i k : Nat} (h : i < l.length) (hp : ¬ k = placeOf d l[i]) : atK d l i (k + 1) = atK d l i k := by
  unfold atK
  rw [dif_pos h, dif_pos h]
  congr 1
  by_cases h2 : placeOf d l[i] < k
  · rw [if_pos h2, if_pos (by omega)]
  · rw [if_neg h2, if_neg (by omega)]
theorem atK_len (d l : List Val3) (i k : Nat) : (atK d l i k).length ≤ i + 1 := by
  unfold atK
  rw [List.length_append, places_len, List.length_take]
  split
  · split <;> simp <;> omega
  · simp; omega
def AKInv (d l : List Val3) (i : Nat) (base : Nat) (w : World) (uv kv : Value) (wr : World) : Prop :=
  ∃ (B : Option Addr) (n cb k : Nat), k ≤ d.length ∧ kv = .int .i64 k ∧ uv = .slice B n cb ∧ n = (atK d l i k).length ∧ wr.ownsRow base 63 1 (.slice B n cb) n (ints .u64 (atK d l i k)) ∧ (B = none → cb = 0) ∧ Later w wr
theorem AKInv.mk {d l : List Val3} {i base : Nat} {w wr : World} (B : Option Addr) (n cb k : Nat) (z : Int) (hk : k ≤ d.length) (hz : z = (k : Int)) (hn : n = (atK d l i k).length) (ho : wr.ownsRow base 63 1 (.slice B n cb) n (ints .u64 (atK d l i k))) (hb : B = none → cb = 0) (lat : Later w wr) : AKInv d l i base w (.slice B n cb) (.int .i64 z) wr := by
  subst hz; exact ⟨B, n, cb, k, hk, rfl, rfl, hn, ho, hb, lat⟩
def AIInv (d l : List Val3) (base : Nat) (w : World) (uv iv : Value) (wr : World) : Prop :=
  ∃ (B : Option Addr) (n cb i : Nat), i ≤ l.length ∧ iv = .int .i64 i ∧ uv = .slice B n cb ∧ n = (places d (l.take i)).length ∧ wr.ownsRow base 63 1 (.slice B n cb) n (ints .u64 (places d (l.take i))) ∧ (B = none → cb = 0) ∧ Later w wr
theorem AIInv.mk {d l : List Val3} {base : Nat} {w wr : World} (B : Option Addr) (n cb i : Nat) (z : Int) (hi : i ≤ l.length) (hz : z = (i : Int)) (hn : n = (places d (l.take i)).length) (ho : wr.ownsRow base 63 1 (.slice B n cb) n (ints .u64 (places d (l.take i)))) (hb : B = none → cb = 0) (lat : Later w wr) : AIInv d l base w (.slice B n cb) (.int .i64 z) wr := by
  subst hz; exact ⟨B, n, cb, i, hi, rfl, rfl, hn, ho, hb, lat⟩

set_option maxRecDepth 100000 in
set_option maxHeartbeats 4000000 in
theorem refDict_any (t : Int) (A : Option Addr) (n c : Nat) (l : List Val3) (w : World) (hn : n = l.length) (ht : 1 ≤ t ∧ t ≤ 4) (hl : l.length ≤ 1000) (hr : Has w A (fl l)) (ho : OkL t l) (h64 : All64 l) :
    Calls Tryz.prog 37 #[.slice A n c] w (Makes (dictB l) w) := by
  have HV := Lib.hid (refValues_any A n c l w hn hl hr)
  obtain ⟨d, hd⟩ : ∃ d, d = wordsOf l := ⟨_, rfl⟩
  obtain ⟨Q, hQ⟩ : ∃ Q, Q = putBits (places d l) (widD d.length) := ⟨_, rfl⟩
  have HBY := Lib.hid (show dictB l = putNum d.length ++ (plainB d ++ Q) by rw [hQ, hd]; rfl)
  have hdl := words_len l
  have HOD := Lib.hid (show OkL t d by rw [hd]; exact words_ok ht ho)
  have HD64 := Lib.hid (show All64 d by rw [hd]; exact words_64 ht ho h64)
  have HPL := Lib.hid (fun (j : Nat) (hj : j < l.length) => (show placeOf d l[j] < d.length by rw [hd]; exact (placeOf_mem (words_asc ht ho) ((words_mem ht ho _).2 (List.getElem_mem hj))).1))
  have HEQ := Lib.hid (fun (j : Nat) (hj : j < l.length) (k : Nat) (hk : k < d.length) => (show d[k] = l[j] ↔ k = placeOf d l[j] from by
    subst hd
    exact asc_place (words_asc ht ho) ((words_mem ht ho _).2 (List.getElem_mem hj)) hk))
  have HWL := Lib.hid (show widL (places d l) ≤ widD d.length by rw [hd]; exact places_wid ht ho)
  have HPLT := Lib.hid (show ∀ x ∈ places d l, x < 18446744073709551616 by
    intro x hx
    obtain ⟨v, hv, rfl⟩ := List.mem_map.1 hx
    have : placeOf d v ≤ d.length := List.countP_le_length
    rw [hd] at this
    rw [hd]
    omega)
  rw [← hd] at HV hdl
  have HT := Lib.hid ht
  have HOL := Lib.hid ho
  have HRL := Lib.hid hr
  have HNL := Lib.hid hn
  have HQQ := Lib.hid hQ
  have HQL := Lib.hid (show Q.length ≤ 8001 by
    have h1 := widD_le (n := d.length) (by omega)
    have h3 : l.length * widD d.length ≤ 1000 * 64 := Nat.mul_le_mul (by omega) h1
    rw [hQ, putBits_len, places_len]; omega)
  have hn9 : n ≤ 1000 := by omega
  have HDN := Lib.hid (show d.length ≤ 1000 by omega)
  clear ht hl hr ho h64 hn hd hQ hdl
  go_enter Tryz.func37, Tryz.ntmps37
  go_wp2_with fail
  refine HV.out.mono ?_
  rintro e w3 ⟨D, m, dc, rfl, hm, hdh, l3⟩
  have HM := Lib.hid hm
  have L3 := Lib.hid l3
  have HDH := Lib.hid hdh
  have hm9 : m ≤ 1000 := by have := HDN.out; omega
  have hmw : IntKind.u64.wrap (m : Int) = (m : Int) := by rw [IntKind.wrap_u64]; omega
  have HPM := Lib.hid (putNum_le m)
  clear hm hdh l3 HV
  go_wp2_with fail
  refine (refPut_makes m (by omega) w3).mono ?_
  rintro e w4 ⟨P, cp, rfl, o4, b4, n4⟩
  have O4 := Lib.hid o4
  have L4 := Lib.hid (Later.of b4)
  have N4 := Lib.hid n4
  clear o4 b4 n4
  go_wp2_with fail
  go_loopw [4, 5] (fun bv iv wr => RDInv (putNum m) d w3 bv iv wr) (fun _ iv _ => m - (intOf iv).toNat)
  case atStart => exact RDInv.mk P _ cp 0 _ (Nat.zero_le _) rfl (by simp [plainB]) (by simpa [plainB] using O4.out) N4.out L4.out
  case round =>
    obtain ⟨B, nb, cb, k, hk, rfl, rfl, hnb, hown, hnil, lat⟩ := hrel
    by_cases hlt : k < m
    · have hkd : k < d.length := by have := HM.out; omega
      obtain ⟨b, off, rfl, c0, c1, c2⟩ := (HDH.out.later lat).val3 k hkd
      obtain ⟨hx, hmv⟩ := HOD.out _ (List.getElem_mem hkd)
      have hi := HD64.out _ (List.getElem_mem hkd)
      have HK := Lib.hid (show putNum m ++ plainB (d.take (k + 1)) = (putNum m ++ plainB (d.take k)) ++ oneB d[k].1 d[k].2.1 d[k].2.2 by
        rw [List.take_succ_eq_append_getElem hkd, plainB_append, List.append_assoc]; simp [plainB])
      have HLE := Lib.hid (show (putNum m ++ plainB (d.take k)).length ≤ 10 + 1000 * 21 by
        have h1 := plainB_le (t := t) (l := d.take k) fun x hx => HOD.out x (List.mem_of_mem_take hx)
        have h2 := HPM.out
        rw [List.length_take] at h1
        rw [List.length_append]
        omega)
      have HO1 := Lib.hid (oneB_le hmv)
      rw [hx] at c0 hmv HK HO1
      generalize d[k].2.1 = i at c1 hmv hi HK HO1
      generalize d[k].2.2 = s at c2 hmv HK HO1
      have HMV := Lib.hid hmv
      have HI := Lib.hid hi
      have HLAT := Lib.hid lat
      have HNB := Lib.hid hnb
      have HOWN := Lib.hid hown
      have HKD := Lib.hid hkd
      have hk0 : (0 : Int) ≤ (k : Int) := by omega
      have hk1 : (k : Int) < (m : Int) := by omega
      clear hmv hi hx lat hnb hown hnil hkd hk
      go_wp2_with (first
        | (go_at_call 35; refine (refOne_any t i s _ HT.out HMV.out HI.out).mono ?_; rintro e w5 ⟨P5, cp5, rfl, r5, b5, m5, n5, l5⟩; have HR5 := Lib.hid r5; have HL5 := Lib.hid (HLAT.out.trans l5); have HW5 := Lib.hid (own_later HOWN.out l5); have HN5 := Lib.hid n5; clear r5 b5 m5 l5 n5)
        | (at_builtin; refine wpList_append_rd _ rfl (.tmp 23) (.tmp 28) 22 rfl w3.heap.size 5 (.int .u8 0) 1 Tryz.underlying22 info_u8 rfl _ nb (ints .u8 (putNum m ++ plainB (d.take k))) rfl HW5.out _ P5 (oneB t i s).length cp5 (ints .u8 (oneB t i s)) rfl HR5.out ?_ HN5.out (ints_one _ _) ?_ ?_ ?_ ?_; (rw [ints_length]); (have h1 := HLE.out; have h2 := HO1.out; have h3 := HNB.out; unfold maxLen; omega); (have h1 := HLE.out; have h2 := HO1.out; have h3 := HNB.out; omega); (exact HL5.out.size); intro A2 c2 w6 o2 g2 b2 n2; have HO2 := Lib.hid o2; have HB6 := Lib.hid b2; have HN2 := Lib.hid n2; clear o2 g2 b2 n2))
      go_roundw
      case rel =>
        refine RDInv.mk A2 _ c2 (k + 1) _ HKD.out (by go_num) ?_ ?_ HN2.out (Later.of (HL5.out.below.trans HB6.out))
        · rw [HK.out, List.length_append, HNB.out]
        · rw [HK.out, ints_snoc]; exact HO2.out
      case measure => simp [intOf]; omega
    · obtain rfl : k = m := by have := HM.out; omega
      rw [List.take_of_length_le (by have := HM.out; omega)] at hnb hown
      have L5 := Lib.hid (L3.out.trans lat)
      have HOWN := Lib.hid hown
      have HNB := Lib.hid hnb
      have HLAT := Lib.hid lat
      obtain ⟨wo, hwo⟩ : ∃ wo, wo = wr := ⟨_, rfl⟩
      subst hwo
      clear hown hnb hnil lat hlt hk
      go_wp2_with fail
      go_loopw [6, 7] (fun uv iv wi => AIInv d l wo.heap.size wo uv iv wi) (fun _ iv _ => n - (intOf iv).toNat)
      case atStart => exact AIInv.mk none 0 0 0 _ (Nat.zero_le _) rfl rfl (World.ownsRow_nil _ _ _ _) (fun _ => rfl) (Later.refl _)
      case round =>
        obtain ⟨U, nu, cu, i, hi, rfl, rfl, hnu, hown, hnil, lat⟩ := hrel
        by_cases hin : i < n
        · have hil : i < l.length := by have := HNL.out; omega
          have HOWNI := Lib.hid hown
          have HNU := Lib.hid hnu
          have HNILI := Lib.hid hnil
          have HLATI := Lib.hid lat
          have HIL := Lib.hid hil
          obtain ⟨wi0, hwi0⟩ : ∃ wi0, wi0 = wr := ⟨_, rfl⟩
          subst hwi0
          clear hown hnu hnil lat hi
          go_wp2_with fail
          go_loopw [6, 8] (fun uv kv wk => AKInv d l i wo.heap.size wo uv kv wk) (fun _ kv _ => k - (intOf kv).toNat)
          case atStart => exact AKInv.mk U nu cu 0 _ (Nat.zero_le _) rfl (by rw [atK_zero]; exact HNU.out) (by rw [atK_zero]; exact HOWNI.out) HNILI.out HLATI.out
          case round =>
            obtain ⟨V, nv, cv, q, hq, rfl, rfl, hnv, hown, hnil, lat⟩ := hrel
            have HOWNK := Lib.hid hown
            have HNV := Lib.hid hnv
            have HNILK := Lib.hid hnil
            have HLATK := Lib.hid lat
            clear hown hnv hnil lat
            by_cases hqk : q < k
            · have hqd : q < d.length := by have := HM.out; omega
              have hnv9 : nv ≤ 2000 := by have := HNV.out; have := atK_len d l i q; omega
              obtain ⟨db, doff, hdadr, d0, d1, d2⟩ := (HDH.out.later (HLAT.out.trans HLATK.out)).val3 q hqd
              obtain ⟨xb, xoff, hxadr, x0, x1, x2⟩ := (HRL.out.later (L5.out.trans HLATK.out)).val3 i hil
              subst hdadr
              subst hxadr
              have HKY := Lib.hid (fun (h : d[q] = l[i]) => atK_yes hil ((HEQ.out i hil q hqd).1 h))
              have HKN := Lib.hid (fun (h : ¬ d[q] = l[i]) => atK_no hil (fun e => h ((HEQ.out i hil q hqd).2 e)))
              obtain ⟨hy1, _⟩ := HOD.out _ (List.getElem_mem hqd)
              obtain ⟨hx1, _⟩ := HOL.out _ (List.getElem_mem hil)
              generalize d[q] = y at d0 d1 d2 hy1 HKY HKN
              generalize l[i] = x at x0 x1 x2 hx1 HKY HKN
              obtain ⟨ty, iy, sy⟩ := y
              obtain ⟨tx, ix, sx⟩ := x
              dsimp only at d0 d1 d2 x0 x1 x2 hy1 hx1
              subst hy1
              have hx1' := hx1.symm
              clear hx1
              subst hx1'
              have hq0 : (0 : Int) ≤ (q : Int) := by omega
              have hq1 : (q : Int) < (k : Int) := by omega
              have hi0 : (0 : Int) ≤ (i : Int) := by omega
              have hi1 : (i : Int) < (n : Int) := by omega
              have hqw : IntKind.u64.wrap (q : Int) = (q : Int) := by rw [IntKind.wrap_u64]; omega
              have HQD := Lib.hid hqd
              by_cases hie : iy = ix
              · have hie' := hie.symm
                clear hie
                subst hie'
                by_cases hse : sy = sx
                · have hse' := hse.symm
                  clear hse
                  subst hse'
                  have HN := Lib.hid (HKY.out rfl)
                  clear HKY HKN
                  go_wp2_with fail
                  go_quiet (fail)
                  obtain ⟨wz, hwz⟩ : ∃ wz, wz = wr.drewN nq := ⟨_, rfl⟩
                  have LZ := Lib.hid (show Later wr wz from hwz ▸ (Later.refl wr).drewN nq)
                  have OZ := Lib.hid ((own_later HOWNK.out LZ.out).alloc (.cells (ints .u64 [q]).toArray 63))
                  have LZ2 := Lib.hid ((HLATK.out.trans LZ.out).alloc (.cells (ints .u64 [q]).toArray 63))
                  rw [← hwz]
                  clear hwz d0 d1 d2 x0 x1 x2
                  go_wp2_with (at_builtin; refine wpList_append_rd _ rfl (.tmp 51) (.tmp 54) 62 rfl wo.heap.size 63 (.int .u64 0) 8 Tryz.underlying62 info_u64 rfl _ nv (ints .u64 (atK d l i q)) rfl OZ.out _ _ 1 1 (ints .u64 [q]) rfl (rd_lit _ _ .u64 [q] _ rfl) ?_ ?_ (ints_one _ _) ?_ ?_ ?_ ?_; rfl; (intro h; cases h); (unfold maxLen; omega); omega; (exact LZ2.out.size); intro A2 c2 w6 o2 g2 b2 n2; have HO2 := Lib.hid o2; have HB6 := Lib.hid (Later.of (LZ2.out.below.trans b2)); have HN2 := Lib.hid n2; clear o2 g2 b2 n2)
                  go_roundw
                  case rel => exact AKInv.mk A2 _ c2 (q + 1) _ HQD.out (by go_num) (by rw [HN.out, List.length_append, HNV.out]; rfl) (by rw [HN.out, ints_snoc]; exact HO2.out) HN2.out HB6.out
                  case measure => simp [intOf]; omega
                · have ene := bytes_ne hse
                  have HN := Lib.hid (HKN.out fun e => hse (by injection e with _ e; injection e with _ e))
                  clear HKY HKN hse
                  go_wp2_with fail
                  go_quiet (fail)
                  go_wp2_with fail
                  go_roundw
                  case rel => exact AKInv.mk V nv cv (q + 1) _ HQD.out (by go_num) (by rw [HN.out]; exact HNV.out) (by rw [HN.out]; exact own_later HOWNK.out ((Later.refl _).drewN _)) HNILK.out (HLATK.out.drewN _)
                  case measure => simp [intOf]; omega
              · have ene : (iy == ix) = false := by simp [hie]
                have HN := Lib.hid (HKN.out fun e => hie (by injection e with _ e; injection e with e _))
                clear HKY HKN hie
                go_wp2_with fail
                go_quiet (fail)
                go_wp2_with fail
                go_roundw
                case rel => exact AKInv.mk V nv cv (q + 1) _ HQD.out (by go_num) (by rw [HN.out]; exact HNV.out) (by rw [HN.out]; exact own_later HOWNK.out ((Later.refl _).drewN _)) HNILK.out (HLATK.out.drewN _)
                case measure => simp [intOf]; omega
            · have hqk2 : q = d.length := by have := HM.out; omega
              have HE := Lib.hid (show atK d l i q = places d (l.take (i + 1)) by rw [hqk2]; exact atK_end hil (HPL.out i hil))
              clear hqk2
              go_wp2_with fail
              go_roundw
              case rel => exact AIInv.mk V nv cv (i + 1) _ hil (by go_num) (by rw [← HE.out]; exact HNV.out) (by rw [← HE.out]; exact HOWNK.out) HNILK.out HLATK.out
              case measure => simp [intOf]; omega
        · have hin2 : i = n := by have := HNL.out; omega
          have HPU := Lib.hid (show places d (l.take i) = places d l by rw [hin2, List.take_of_length_le (by have := HNL.out; omega)])
          rw [HPU.out] at hown hnu
          have HNU := Lib.hid hnu
          have hnu9 : nu ≤ 1000 := by rw [hnu, places_len]; have := HNL.out; omega
          have HUH := Lib.hid (Has.own hown)
          have HLATI := Lib.hid lat
          have O6 := Lib.hid (own_later HOWN.out lat)
          obtain ⟨z, hz⟩ : ∃ z : Nat, z = max k 1 - 1 := ⟨_, rfl⟩
          have HWD := Lib.hid (show wid z = widD k by rw [hz]; exact widD_ref k)
          have HZW := Lib.hid (fun w' => ref_width z (by omega) w')
          have hQk : putBits (places d l) (widD k) = Q := by rw [HQQ.out, ← HM.out]
          have HPT := Lib.hid (refBitsPut_o U nu cu (places d l) (widD k : Int) (widD k) wr HNU.out rfl HUH.out (by have := HNU.out; omega) HPLT.out (widD_le (by omega)) (by have := HWL.out; rw [← HM.out] at this; exact this))
          rw [hQk] at HPT
          rw [HWD.out] at HZW
          have HLE := Lib.hid (show (putNum k ++ plainB d).length ≤ 10 + 1000 * 21 by
            have h1 := plainB_le HOD.out
            have h2 := HPM.out
            have h3 := HDN.out
            rw [List.length_append]
            omega)
          have hk1 : k = 0 ∨ 1 ≤ k := by omega
          have hmax : max (k : Int) 1 = (z : Int) + 1 := by omega
          have hzw : IntKind.u64.wrap (z : Int) = (z : Int) := by rw [IntKind.wrap_u64]; omega
          clear hown hnu lat hQk hin2 hz hi hnil
          go_wp2_with (go_at_call 58; refine (HZW.out _).mono ?_; rintro e w' ⟨rfl, rfl⟩)
          refine HPT.out.mono ?_
          intro e w8 h
          obtain ⟨QA, qc, rfl, qh, hq1, hq2, hqn, l8⟩ := h.yes rfl
          have L8 := Lib.hid ((HLAT.out.trans HLATI.out).trans l8)
          have O8 := Lib.hid (own_later O6.out l8)
          have HQH := Lib.hid qh
          have HQN := Lib.hid hqn
          clear h l8 HPT qh hqn
          go_wp2_with (at_builtin; refine wpList_append_rd _ rfl (.tmp 67) (.tmp 68) 22 rfl w3.heap.size 5 (.int .u8 0) 1 Tryz.underlying22 info_u8 rfl _ nb (ints .u8 (putNum k ++ plainB d)) rfl O8.out _ QA Q.length qc (ints .u8 Q) rfl HQH.out ?_ HQN.out (ints_one _ _) ?_ ?_ ?_ ?_; (rw [ints_length]); (have h1 := HLE.out; have h2 := HQL.out; have h3 := HNB.out; unfold maxLen; omega); (have h1 := HLE.out; have h2 := HQL.out; have h3 := HNB.out; omega); (exact L8.out.size); intro A9 c9 w9 o9 g9 b9 n9; have O9 := Lib.hid o9; have L9 := Lib.hid (Later.of (L8.out.below.trans b9)); have N9 := Lib.hid n9; clear o9 g9 b9 n9)
          go_ret
          have hlen : nb + Q.length = (dictB l).length := by
            rw [HBY.out, ← HM.out, HNB.out, ← List.append_assoc]
            simp only [List.length_append]
          have hcells : ints .u8 (putNum k ++ plainB d) ++ ints .u8 Q = ints .u8 (dictB l) := by rw [HBY.out, ← HM.out, ← List.append_assoc]; simp [ints]
          have o := O9.out
          rw [hcells, hlen] at o
          exact ⟨A9, c9, by rw [← hlen]; rfl, own_mono o L3.out.size, (L3.out.trans L9.out).below, N9.out⟩

set_option maxRecDepth 100000 in
theorem refEncT_yes (t : Int) (A : Option Addr) (c : Nat) (l : List Val3) (w : World) (ht : 1 ≤ t ∧ t ≤ 4) (hl : l.length ≤ 1000) (hr : Has w A (fl l)) (ho : OkL t l) (h64 : All64 l) :
    Calls Tryz.prog 21 #[.int .i64 3, .int .i64 t, .slice A l.length c] w (OwnB (dictB l) w) := by
  have HA := Lib.hid (refRight_any t A c l w (by omega) hr)
  have HT := Lib.hid (show (1 ≤ t ∧ t ≤ 4) ∧ OkL t l from ⟨ht, ho⟩)
  have HP := Lib.hid (fun w' (lz : Later w w') => refDict_any t A l.length c l w' rfl ht hl (hr.later lz) ho h64)
  clear ht ho hr h64
  go_enter Tryz.func21, Tryz.ntmps21
  go_wp2_with fail
  refine HA.out.mono ?_
  intro e w1 h
  obtain ⟨rfl, l1⟩ := h.yes HT.out
  have L1 := Lib.hid l1
  clear h HA l1
  go_wp2_with fail
  refine (HP.out w1 L1.out).mono ?_
  rintro e w2 ⟨B, cb, rfl, own, bel, hnil⟩
  have O := Lib.hid (own_mono own L1.out.size)
  have L2 := Lib.hid (L1.out.trans (Later.of bel))
  have HN2 := Lib.hid hnil
  clear own bel hnil
  go_wp2_with fail
  go_ret2
  exact ⟨B, cb, rfl, O.out, HN2.out, L2.out⟩
theorem refEncT_any (t : Int) (A : Option Addr) (c : Nat) (l : List Val3) (w : World) (hl : l.length ≤ 1000) (hr : Has w A (fl l)) (h64 : All64 l) :
    Calls Tryz.prog 21 #[.int .i64 3, .int .i64 t, .slice A l.length c] w (PutsB (putT t l) w) := by
  unfold putT
  by_cases h : (1 ≤ t ∧ t ≤ 4) ∧ OkL t l
  · rw [if_pos h]; exact (refEncT_yes t A c l w h.1 hl hr h.2 h64).mono fun _ _ h => h.puts
  · rw [if_neg h]; exact refEnc_no 3 t A c l w (by omega) hr h
theorem refEncT_own (t : Int) (A : Option Addr) (c : Nat) (l : List Val3) (pb : List Nat) (w : World) (hl : l.length ≤ 1000) (hr : Has w A (fl l)) (h64 : All64 l) (hp : putT t l = some pb) :
    Calls Tryz.prog 21 #[.int .i64 3, .int .i64 t, .slice A l.length c] w (OwnB pb w) := by
  obtain ⟨h1, h2, rfl⟩ := putT_is hp
  exact refEncT_yes t A c l w h1 hl hr h2 h64
end Go.Proofs.YtldalkhmbpkjpaaGreatDoor
