/- The walk of PredNulls. -/
import Derived.Test.YteiabachilpciaaDoorPred0
import Derived.Test.YteiabachilpciaaDoorPredD
import Derived.Test.YteiabachilpciaaDoorPlayS
import Derived.Test.YteiabachilpciaaDoorPlayR
import Derived.Test.YteiabachilpciaaDoorKripke
namespace Go.Proofs.YteiabachilpciaaDoor
open Go.RowKit
set_option linter.unusedVariables false

theorem fl_set : ∀ (row : List Val3) (k : Nat) (x : Val3), k < row.length → fl (row.set k x) = (((fl row).set (k * 3) (.int .i64 x.1)).set (k * 3 + 1) (.int .i64 x.2.1)).set (k * 3 + 2) (.string x.2.2)
  | [], k, x, h => by simp at h
  | y :: r, 0, x, _ => rfl
  | y :: r, k + 1, x, h => by
    have ih := fl_set r k x (by simpa using h)
    have e : (k + 1) * 3 = k * 3 + 3 := by omega
    rw [List.set_cons_succ, e]
    show _ :: _ :: _ :: fl (r.set k x) = ((((Value.int .i64 y.1) :: (.int .i64 y.2.1) :: (.string y.2.2) :: fl r).set (k * 3 + 3) _).set (k * 3 + 3 + 1) _).set (k * 3 + 3 + 2) _
    rw [ih]
    rfl
theorem own_open {w : World} {base n c size : Nat} {e : TypeId} {R : Option Addr} {xs : List Value} (h : w.ownsRow base e size (.slice R n c) n xs) (hn : 0 < n) :
    ∃ q cur, R = some ⟨q, 0, none⟩ ∧ base ≤ q ∧ Blk w q cur e ∧ n ≤ c ∧ c ≤ maxLen ∧ cur.size = c * size ∧ cur.toList.take (n * size) = xs := by
  obtain ⟨p1, p2⟩ := h
  rcases p2 with ⟨p2, p3⟩ | ⟨q, cap, cur, ha, hb, hg, h1, h2, h3, h4⟩
  · omega
  · injection ha with e1 e2 e3
    subst e3
    exact ⟨q, cur, e1, hb, hg, h1, h2, h3, h4⟩
theorem has_of_take {w : World} {q : Nat} {cur : Array Value} {e : TypeId} {N : Nat} {xs : List Value} (h : Blk w q cur e) (ht : cur.toList.take N = xs) : Has w (some ⟨q, 0, none⟩) xs := by
  refine .inr ⟨q, 0, rfl, h.lt, fun k v hv => ?_⟩
  rw [Nat.zero_add]
  refine h.cell k v ?_
  rw [← ht, List.getElem?_take] at hv
  split at hv
  · rw [← Array.getElem?_toList]; exact hv
  · cases hv
theorem HasX.off {w : World} {o : Option Nat} {b : Nat} {off : Nat} {xs : List Value} (h : HasX o w (some ⟨b, off, none⟩) xs) {p : Addr} (hne : b ≠ p.block) (v : Value) : HasX o (w.setCell p v) (some ⟨b, off, none⟩) xs := by
  rcases h with h | ⟨b', off', hA, hb, hn, hc⟩
  · exact .inl h
  · injection hA with hA; injection hA with e1 e2
    subst e1 e2
    exact .inr ⟨b, off, rfl, by simpa [World.setCell] using hb, hn, fun k u hu => by rw [cell_block (Below.heap_setCell w p v b hne)]; exact hc k u hu⟩
theorem HasX.lt {w : World} {o : Option Nat} {b : Nat} {off : Nat} {xs : List Value} (h : HasX o w (some ⟨b, off, none⟩) xs) (hne : 0 < xs.length) : b < w.heap.size := by
  rcases h with h | ⟨b', off', hA, hb, hn, hc⟩
  · rw [h] at hne; simp at hne
  · injection hA with hA; injection hA with e1 e2
    subst e1 e2
    exact hb
/-- The names of a made schema differ. -/
theorem playCols_find (t0 : Int) (m : Nat) (ts : List Int) (hm : m ≤ 2) (hl : ts.length = m) (k : Nat) (hk : k < (playCols t0 m ts).length) : findC (playCols t0 m ts) (playCols t0 m ts)[k].2.1 = some k := by
  refine firstAt hk (by simp) ?_
  intro i hi hik
  rw [playCols_len, hl] at hk hi
  match m, ts, hl with
  | 0, [], _ =>
    obtain ⟨rfl, rfl⟩ : k = 1 ∧ i = 0 := by omega
    rfl
  | 1, [a], _ =>
    obtain ⟨rfl, rfl⟩ | ⟨rfl, rfl⟩ | ⟨rfl, rfl⟩ : (k = 1 ∧ i = 0) ∨ (k = 2 ∧ i = 0) ∨ (k = 2 ∧ i = 1) := by omega
    all_goals rfl
  | 2, [a, b], _ =>
    obtain ⟨rfl, rfl⟩ | ⟨rfl, rfl⟩ | ⟨rfl, rfl⟩ | ⟨rfl, rfl⟩ | ⟨rfl, rfl⟩ | ⟨rfl, rfl⟩ : (k = 1 ∧ i = 0) ∨ (k = 2 ∧ i = 0) ∨ (k = 2 ∧ i = 1) ∨ (k = 3 ∧ i = 0) ∨ (k = 3 ∧ i = 1) ∨ (k = 3 ∧ i = 2) := by omega
    all_goals rfl
theorem rowT_one (cols : List Col3) (row : List Val3) (t : Tst) (h : t.or_ = false) : rowT cols [t] row = max 0 (min 2 (oneT cols row t)) := by
  unfold rowT rowS
  simp only [List.foldl_cons, List.foldl_nil, stepT, Bool.false_and, Bool.false_eq_true, if_false]
theorem rowT_null (cols : List Col3) (row : List Val3) (k : Nat) (hk : k < row.length) (nm : ByteArray) (hf : findC cols nm = some k) (op : Int) (v : Val3) (nt : Bool) (hop : op ≠ 7 ∧ op ≠ 8) : rowT cols [⟨nm, op, v, false, nt⟩] (row.set k (0, 0, ⟨#[]⟩)) = 1 := by
  rw [rowT_one _ _ _ rfl]
  unfold oneT
  have e : (row.set k (0, 0, ⟨#[]⟩))[k]? = some (0, 0, ⟨#[]⟩) := by rw [List.getElem?_set_self hk]
  simp only [hf, Option.bind_some, e, saysT, hop.1, hop.2, if_false, true_or, if_true]
  cases nt <;> rfl
theorem rowT_isNull (cols : List Col3) (row : List Val3) (k : Nat) (hk : k < row.length) (nm : ByteArray) (hf : findC cols nm = some k) (v : Val3) (nt : Bool) : rowT cols [⟨nm, 7, v, false, nt⟩] (row.set k (0, 0, ⟨#[]⟩)) = if nt then 0 else 2 := by
  rw [rowT_one _ _ _ rfl]
  unfold oneT
  have e : (row.set k (0, 0, ⟨#[]⟩))[k]? = some (0, 0, ⟨#[]⟩) := by rw [List.getElem?_set_self hk]
  simp only [hf, Option.bind_some, e, saysT, if_true, sureN, decide_true]
  cases nt <;> rfl
theorem rowT_notNull (cols : List Col3) (row : List Val3) (k : Nat) (hk : k < row.length) (nm : ByteArray) (hf : findC cols nm = some k) (v : Val3) (nt : Bool) : rowT cols [⟨nm, 8, v, false, nt⟩] (row.set k (0, 0, ⟨#[]⟩)) = if nt then 2 else 0 := by
  rw [rowT_one _ _ _ rfl]
  unfold oneT
  have e : (row.set k (0, 0, ⟨#[]⟩))[k]? = some (0, 0, ⟨#[]⟩) := by rw [List.getElem?_set_self hk]
  have e8 : ¬ (8 : Int) = 7 := by decide
  simp only [hf, Option.bind_some, e, saysT, if_true, if_neg e8, sureN, decide_true]
  cases nt <;> rfl

set_option maxRecDepth 100000 in
theorem predNulls_long (A : Option Addr) (n c : Nat) (at_ op : Int) (nt : Bool) (w : World) (hg : ErrT w) (hs : S3 w) (hn : 60 < n) :
    Calls Tryd.prog 6 #[.slice A n c, .int .u8 at_, .int .u8 op, .bool nt] w fun e w' => e = .returned (.bool true) ∧ Later w w' := by
  have HB := Lib.hid (begun23_any w hg hs)
  clear hg hs
  go_enter Tryd.func6, Tryd.ntmps6
  go_wp2_with fail
  refine HB.out.mono ?_
  rintro e w1 ⟨rfl, l1⟩
  have HL1 := Lib.hid l1
  clear l1 HB
  have hn60 : (60 : Int) < (n : Int) := by omega
  go_wp2_with fail
  go_ret
  exact ⟨rfl, HL1.out⟩
set_option maxRecDepth 100000 in
set_option maxHeartbeats 8000000 in
theorem predNulls_walk (A : Option Addr) (n c : Nat) (bs : List Nat) (at_ op : Nat) (nt : Bool) (w : World) (hg : ErrT w) (hs : S3 w) (hb : bs.length = n) (hn : n ≤ 60) (hr : Has w A (ints .u8 bs)) (h256 : ∀ x ∈ bs, x < 256) (hat : at_ < 256) (hop : op < 256) :
    Calls Tryd.prog 6 #[.slice A n c, .int .u8 at_, .int .u8 op, .bool nt] w fun e w' => e = .returned (.bool true) ∧ Later w w' := by
  have HB := Lib.hid (begun23_any w hg hs)
  have HR := Lib.hid hr
  have hc : PkC n bs := ⟨by omega, hb, h256⟩
  have HCC := Lib.hid hc
  clear hr h256 hb hg hs hc
  go_enter Tryd.func6, Tryd.ntmps6
  go_wp2_with fail
  refine HB.out.mono ?_
  rintro e w1 ⟨rfl, l1⟩
  have HL1 := Lib.hid l1
  have HR1 := Lib.hid (HR.out.later l1)
  obtain ⟨g, hg⟩ : ∃ g, w1.heap.size = g := ⟨_, rfl⟩
  clear l1 HB HR
  have hn60 : ((60 : Int) < (n : Int)) = False := by simp; omega
  go_wp2_with (go_at_call 8; refine (made_any A n c _).mono ?_; rintro e w2 ⟨rfl, hw2⟩)
  have l2 : Later w1 w2 := hw2 ▸ Later.new _ _
  have HPK2 := Lib.hid (show Pks w2 g A n c bs from ⟨⟨0, Nat.zero_le _, hw2 ▸ Blk.new _ _ _ g hg.symm⟩, by
    have h := HR1.out
    rcases h with h | ⟨b, off, hA, hb, hcc⟩
    · exact .inl h
    · exact .inr ⟨b, off, hA, by omega, fun k v hv => l2.cell (hcc k v hv)⟩⟩)
  have HL2 := Lib.hid l2
  have HPK2L := Lib.hid HPK2.out.lt
  have HG0 := Lib.hid hg
  clear l2 hw2 HR1 hg hn60
  refine (schema_any g A n c bs w2 HCC.out HPK2.out).mono ?_
  rintro e w3 ⟨t0, m, ts, V, vc, es, E, ec, d0, d1, d2, rfl, ⟨hm, htl, ht0, hts⟩, ⟨hes, het, hlay⟩, rs⟩
  obtain ⟨cols, hcols⟩ : ∃ x, playCols t0 m ts = x := ⟨_, rfl⟩
  rw [hcols] at rs
  have hcl : cols.length = m + 2 := by rw [← hcols, playCols_len, htl]
  have HFC := Lib.hid (by subst hcols; exact playCols_find t0 m ts hm htl : ∀ k (hk : k < cols.length), findC cols cols[k].2.1 = some k)
  obtain ⟨vn, hvn⟩ : ∃ x, m + 2 = x := ⟨_, rfl⟩
  rw [hvn] at rs hcl
  rw [hvn]
  have hvb : 2 ≤ vn ∧ vn ≤ 4 := by omega
  have HCL := Lib.hid hcl
  obtain ⟨L, hL⟩ : ∃ x : Int, ((vn : Nat) : Int) = x := ⟨_, rfl⟩
  have HLL := Lib.hid hL
  have hVB : Has w3 V (fc cols) := (HasX.own rs.oV (o := none) (fun _ h => by cases h)).has
  have hVX : HasX (some g) w3 V (fc cols) := HasX.own rs.oV fun _ h => by injection h with h; rw [← h]; exact rs.far.1
  have HRS := Lib.hid rs
  obtain ⟨gs, hgs⟩ : ∃ x, w3.heap.size = x := ⟨_, rfl⟩
  have HGG := Lib.hid (show g < gs by rw [← hgs]; exact Nat.lt_of_lt_of_le HPK2.out.lt rs.far.size)
  obtain ⟨w4, hw4⟩ : ∃ x : World, (w3.alloc (.cells #[.slice V vn vc, .int .i64 vn] 33)).alloc (.cells #[.int .i64 d0, .int .i64 d1, .int .i64 d2, .slice E vn ec] 36) = x := ⟨_, rfl⟩
  have l4 : Later w3 w4 := hw4 ▸ (Later.new _ _).alloc _
  have HS4 := Lib.hid (show Blk w4 gs #[.slice V vn vc, .int .i64 vn] 33 from hw4 ▸ (Blk.new w3 _ _ gs hgs.symm).later (Later.new _ _))
  have hz4 : w4.heap.size = gs + 2 := by rw [← hw4, ← hgs]; simp
  have HP4 := Lib.hid (rs.pk.later l4)
  have HF4 := Lib.hid (rs.far.later l4)
  have HV4 := Lib.hid (hVX.later l4)
  clear hcols hvn hL hcl l4 HRS rs hts het hlay hes ht0 htl HPK2 hVB hVX
  obtain ⟨k, hk⟩ : ∃ k, at_ % vn = k := ⟨_, rfl⟩
  have hkv : k < vn := hk ▸ Nat.mod_lt _ (by omega)
  have hmz : (at_ : Int) % (vn : Int) = (k : Int) := by rw [← hk]; rfl
  have hmx : (at_ : Int).tmod (vn : Int) = (k : Int) := by rw [Int.tmod_eq_emod_of_nonneg (by omega)]; exact hmz
  have hm0 : ((vn : Int) == 0) = false := by rw [beq_eq_false_iff_ne]; omega
  have hvn0 : ¬ (vn : Int) = 0 := by omega
  have wat : IntKind.i64.wrap (at_ : Int) = (at_ : Int) := IntWalk.i64_in _ ⟨by omega, by omega⟩
  have wkk : IntKind.i64.wrap (k : Int) = (k : Int) := IntWalk.i64_in _ ⟨by omega, by omega⟩
  have s0 := HS4.out.cell 0 _ rfl
  have s1 := HS4.out.cell 1 _ rfl
  clear hk
  go_wp2_with fail
  refine (row_any g A n c bs V vn vc vn cols w4 HCC.out HP4.out HCL.out.symm (by omega) HV4.out).mono ?_
  rintro e w5 ⟨row, R, rc, rfl, hrl, hfit, ho, hrn, hp5, hf5⟩
  have hrv : row.length = vn := hrl.trans HCL.out
  rw [hrv] at ho ⊢
  obtain ⟨q, cur, rfl, hq, hbl, hrc, hrcm, hcs, htk⟩ := own_open ho (by omega)
  obtain ⟨a0, ha0⟩ : ∃ a, cur[k * 3]? = some a := ⟨_, Array.getElem?_eq_getElem (by omega)⟩
  obtain ⟨a1, ha1⟩ : ∃ a, cur[k * 3 + 1]? = some a := ⟨_, Array.getElem?_eq_getElem (by omega)⟩
  obtain ⟨a2, ha2⟩ : ∃ a, cur[k * 3 + 2]? = some a := ⟨_, Array.getElem?_eq_getElem (by omega)⟩
  have x0 := hbl.cell _ _ ha0
  have y0 := hbl.frozen (k * 3)
  have b1 := hbl.set_ (k * 3) (.int .i64 0)
  have u1 : Below w4.heap.size w5 (w5.setCell ⟨q, k * 3, none⟩ (.int .i64 0)) := (Below.refl _ _).setCell (p := ⟨q, k * 3, none⟩) hq _
  obtain ⟨w5a, hw5a⟩ : ∃ x, w5.setCell ⟨q, k * 3, none⟩ (.int .i64 0) = x := ⟨_, rfl⟩
  rw [hw5a] at b1 u1
  have x1 := b1.cell (k * 3 + 1) a1 (by rw [Array.getElem?_setIfInBounds_ne (by omega)]; exact ha1)
  have y1 := b1.frozen (k * 3 + 1)
  have b2 := b1.set_ (k * 3 + 1) (.int .i64 0)
  have u2 : Below w4.heap.size w5 (w5a.setCell ⟨q, k * 3 + 1, none⟩ (.int .i64 0)) := u1.setCell (p := ⟨q, k * 3 + 1, none⟩) hq _
  obtain ⟨w5b, hw5b⟩ : ∃ x, w5a.setCell ⟨q, k * 3 + 1, none⟩ (.int .i64 0) = x := ⟨_, rfl⟩
  rw [hw5b] at b2 u2
  have x2 := b2.cell (k * 3 + 2) a2 (by rw [Array.getElem?_setIfInBounds_ne (by omega), Array.getElem?_setIfInBounds_ne (by omega)]; exact ha2)
  have y2 := b2.frozen (k * 3 + 2)
  have b3 := b2.set_ (k * 3 + 2) (.string ⟨#[]⟩)
  have u3 : Below w4.heap.size w5 (w5b.setCell ⟨q, k * 3 + 2, none⟩ (.string ⟨#[]⟩)) := u2.setCell (p := ⟨q, k * 3 + 2, none⟩) hq _
  obtain ⟨w6, hw6⟩ : ∃ x, w5b.setCell ⟨q, k * 3 + 2, none⟩ (.string ⟨#[]⟩) = x := ⟨_, rfl⟩
  rw [hw6] at b3 u3
  have hrow6 : Has w6 (some ⟨q, 0, none⟩) (fl (row.set k (0, 0, ⟨#[]⟩))) := has_of_take b3 (N := vn * 3) (by
    rw [fl_set row k _ (by omega), ← htk]
    simp [List.take_set])
  have hqg : q ≠ g := by have := HF4.out.size; have := HPK2L.out; omega
  have HROW6 := Lib.hid (show HasX (some g) w6 (some ⟨q, 0, none⟩) (fl (row.set k (0, 0, ⟨#[]⟩))) by
    rcases hrow6 with h | ⟨b, off, hA, hb, hcc⟩
    · exact .inl h
    · injection hA with hA; injection hA with e1 e2
      subst e1 e2
      exact .inr ⟨q, 0, rfl, hb, by intro e; injection e with e; exact hqg e, hcc⟩)
  have HF6 := Lib.hid (hf5.below u3)
  have HP6 := Lib.hid (hp5.below u3 (by have := hf5.1; omega))
  have HRV := Lib.hid hrv
  have hqs : q < w6.heap.size := b3.lt
  have hkl : (k : Int) < (vn : Int) := by omega
  have hk0 : (0 : Int) ≤ (k : Int) := by omega
  clear ho hp5 hf5 hfit hrl hrn htk hcs b1 b2 b3 u1 u2 u3 hbl ha0 ha1 ha2 hrow6 s0 s1 hrv
  go_wp2_with fail
  clear hw5a hw5b hw6 x0 y0 x1 y1 x2 y2
  have HNE := Lib.hid (show 0 < (fl (row.set k (0, 0, ⟨#[]⟩))).length by rw [fl_length, List.length_set, HRV.out]; omega)
  have hkc : k < cols.length := by rw [HCL.out]; exact hkv
  obtain ⟨vb, voff, hVA, v0, v1, v2⟩ := HV4.out.has.col3 k hkc
  have HF := Lib.hid (HFC.out k hkc)
  have HC10 := Lib.hid (show ∀ W, Far g w4 W → W.cell? ⟨gs, 0, none⟩ = some (.slice V vn vc) ∧ W.cell? ⟨vb, voff + k * 3 + 1, none⟩ = some (.string cols[k].2.1) ∧ W.cell? ⟨vb, voff + k * 3 + 2, none⟩ = some (.int .i64 cols[k].2.2) by
    intro W hW
    refine ⟨(hW.blk HS4.out (by have := HGG.out; omega)).cell 0 _ rfl, ?_⟩
    obtain ⟨b', off', hA', _, w1', w2'⟩ := (HV4.out.far hW).has.col3 k hkc
    rw [hVA] at hA'
    injection hA' with hA'; injection hA' with e1 e2
    subst e1 e2
    exact ⟨w1', w2'⟩)
  subst hVA
  generalize cols[k] = x at v0 v1 v2 HC10 HF
  obtain ⟨ci, nm, ty⟩ := x
  dsimp only at v0 v1 v2 HC10 HF
  clear v0 v1 v2
  obtain ⟨o6, ho6⟩ : ∃ x, op % 6 = x := ⟨_, rfl⟩
  have ho6b : o6 < 6 := by omega
  have hoz : (op : Int) % 6 = (o6 : Int) := by omega
  have hox : (op : Int).tmod 6 = (o6 : Int) := by rw [Int.tmod_eq_emod_of_nonneg (by omega)]; exact hoz
  have wo1 : IntKind.u8.wrap (o6 : Int) = (o6 : Int) := by simp [IntKind.wrap, IntKind.bits, IntKind.signed]; omega
  have wo2 : IntKind.i64.wrap (o6 : Int) = (o6 : Int) := IntWalk.i64_in _ ⟨by omega, by omega⟩
  have wo3 : IntKind.i64.wrap (1 + (o6 : Int)) = 1 + (o6 : Int) := IntWalk.i64_in _ ⟨by omega, by omega⟩
  clear ho6
  refine wp_region_Z (S := fun W : World => Far g w4 W) 21 (by kernel_rfl) ?_
  have hS : (fun W : World => Far g w4 W) w6.drew := HF6.out.later (Later.refl w6).drew
  have HP := Lib.hid (HP6.out.later (Later.refl w6).drew)
  have HROW := Lib.hid (HROW6.out.later (Later.refl w6).drew)
  obtain ⟨wd, hwd⟩ : ∃ x, w6.drew = x := ⟨_, rfl⟩
  have hqd : q < wd.heap.size := by rw [← hwd]; exact hqs
  rw [hwd] at hS HP HROW ⊢
  clear hwd
  refine wpAnyZ_take (i := 0) (oi := { dst := some 43, op := _, type := _, pos := _, after := _, guard := _ }) (v := ?_) rfl (by kernel_rfl) (by kernel_rfl) (by kernel_rfl) (by kernel_rfl) (fun _ _ _ h => h) (Or.inl ⟨by rfl, ?_⟩) hS ?_
  rotate_left
  focus ((intro w hSw; (try dsimp only at hSw); obtain ⟨d0, d1, d2⟩ := HC10.out w hSw; go_simp); (try with_reducible rfl))
  (try simp only [Act.put, List.setIfInBounds_toArray, List.set_cons_zero, List.set_cons_succ])
  refine wpAnyZ_take (i := 1) (oi := { dst := some 44, op := _, type := _, pos := _, after := _, guard := _ }) (v := ?_) rfl (by kernel_rfl) (by kernel_rfl) (by kernel_rfl) (by kernel_rfl) (fun _ _ _ h => h) (Or.inl ⟨by rfl, ?_⟩) hS ?_
  rotate_left
  focus ((intro w hSw; (try dsimp only at hSw); obtain ⟨d0, d1, d2⟩ := HC10.out w hSw; go_simp); (try with_reducible rfl))
  (try simp only [Act.put, List.setIfInBounds_toArray, List.set_cons_zero, List.set_cons_succ])
  refine wpAnyZ_take (i := 2) (oi := { dst := some 45, op := _, type := _, pos := _, after := _, guard := _ }) (v := ?_) rfl (by kernel_rfl) (by kernel_rfl) (by kernel_rfl) (by kernel_rfl) (fun _ _ _ h => h) (Or.inl ⟨by rfl, ?_⟩) hS ?_
  rotate_left
  focus ((intro w hSw; (try dsimp only at hSw); obtain ⟨d0, d1, d2⟩ := HC10.out w hSw; go_simp); (try with_reducible rfl))
  (try simp only [Act.put, List.setIfInBounds_toArray, List.set_cons_zero, List.set_cons_succ])
  refine wpAnyZ_take (i := 3) (oi := { dst := some 46, op := _, type := _, pos := _, after := _, guard := _ }) (v := ?_) rfl (by kernel_rfl) (by kernel_rfl) (by kernel_rfl) (by kernel_rfl) (fun _ _ _ h => h) (Or.inl ⟨by rfl, ?_⟩) hS ?_
  rotate_left
  focus ((intro w hSw; (try dsimp only at hSw); obtain ⟨d0, d1, d2⟩ := HC10.out w hSw; go_simp); (try with_reducible rfl))
  (try simp only [Act.put, List.setIfInBounds_toArray, List.set_cons_zero, List.set_cons_succ])
  refine wpAnyZ_take (i := 4) (oi := { dst := some 47, op := _, type := _, pos := _, after := _, guard := _ }) (v := ?_) rfl (by kernel_rfl) (by kernel_rfl) (by kernel_rfl) (by kernel_rfl) (fun _ _ _ h => h) (Or.inl ⟨by rfl, ?_⟩) hS ?_
  rotate_left
  focus ((intro w hSw; (try dsimp only at hSw); obtain ⟨d0, d1, d2⟩ := HC10.out w hSw; go_simp); (try with_reducible rfl))
  (try simp only [Act.put, List.setIfInBounds_toArray, List.set_cons_zero, List.set_cons_succ])
  refine wpAnyZ_take (i := 5) (oi := { dst := some 48, op := _, type := _, pos := _, after := _, guard := _ }) (v := ?_) rfl (by kernel_rfl) (by kernel_rfl) (by kernel_rfl) (by kernel_rfl) (fun _ _ _ h => h) (Or.inl ⟨by rfl, ?_⟩) hS ?_
  rotate_left
  focus ((intro w hSw; (try dsimp only at hSw); obtain ⟨d0, d1, d2⟩ := HC10.out w hSw; go_simp); (try with_reducible rfl))
  (try simp only [Act.put, List.setIfInBounds_toArray, List.set_cons_zero, List.set_cons_succ])
  refine wpAnyZ_take (i := 6) (oi := { dst := some 49, op := _, type := _, pos := _, after := _, guard := _ }) (v := ?_) rfl (by kernel_rfl) (by kernel_rfl) (by kernel_rfl) (by kernel_rfl) (fun _ _ _ h => h) (Or.inl ⟨by rfl, ?_⟩) hS ?_
  rotate_left
  focus ((intro w hSw; (try dsimp only at hSw); obtain ⟨d0, d1, d2⟩ := HC10.out w hSw; go_simp); (try with_reducible rfl))
  (try simp only [Act.put, List.setIfInBounds_toArray, List.set_cons_zero, List.set_cons_succ])
  refine wpAnyZ_take (i := 7) (oi := { dst := some 50, op := _, type := _, pos := _, after := _, guard := _ }) (v := ?_) rfl (by kernel_rfl) (by kernel_rfl) (by kernel_rfl) (by kernel_rfl) (fun _ _ _ h => h) (Or.inl ⟨by rfl, ?_⟩) hS ?_
  rotate_left
  focus ((intro w hSw; (try dsimp only at hSw); obtain ⟨d0, d1, d2⟩ := HC10.out w hSw; go_simp); (try with_reducible rfl))
  (try simp only [Act.put, List.setIfInBounds_toArray, List.set_cons_zero, List.set_cons_succ])
  refine wpAnyZ_take (i := 8) (oi := { dst := some 51, op := _, type := _, pos := _, after := _, guard := _ }) (v := ?_) rfl (by kernel_rfl) (by kernel_rfl) (by kernel_rfl) (by kernel_rfl) (fun _ _ _ h => h) (Or.inl ⟨by rfl, ?_⟩) hS ?_
  rotate_left
  focus ((intro w hSw; (try dsimp only at hSw); obtain ⟨d0, d1, d2⟩ := HC10.out w hSw; go_simp); (try with_reducible rfl))
  (try simp only [Act.put, List.setIfInBounds_toArray, List.set_cons_zero, List.set_cons_succ])
  refine wpAnyZ_take (i := 9) (oi := { dst := some 52, op := _, type := _, pos := _, after := _, guard := _ }) (v := ?_) rfl (by kernel_rfl) (by kernel_rfl) (by kernel_rfl) (by kernel_rfl) (fun _ _ _ h => h) (Or.inl ⟨by rfl, ?_⟩) hS ?_
  rotate_left
  focus ((intro w hSw; (try dsimp only at hSw); obtain ⟨d0, d1, d2⟩ := HC10.out w hSw; go_simp); (try with_reducible rfl))
  (try simp only [Act.put, List.setIfInBounds_toArray, List.set_cons_zero, List.set_cons_succ])
  refine wpAnyZ_take (i := 10) (oi := { dst := some 53, op := _, type := _, pos := _, after := _, guard := _ }) (v := ?_) rfl (by kernel_rfl) (by kernel_rfl) (by kernel_rfl) (by kernel_rfl) (fun _ _ _ h => h) (Or.inl ⟨by rfl, ?_⟩) hS ?_
  rotate_left
  focus ((intro w hSw; (try dsimp only at hSw); obtain ⟨d0, d1, d2⟩ := HC10.out w hSw; go_simp); (try with_reducible rfl))
  (try simp only [Act.put, List.setIfInBounds_toArray, List.set_cons_zero, List.set_cons_succ])
  refine wpAnyZ_take (i := 11) (oi := { dst := some 54, op := _, type := _, pos := _, after := _, guard := _ }) (v := ?_) rfl (by kernel_rfl) (by kernel_rfl) (by kernel_rfl) (by kernel_rfl) (fun _ _ _ h => h) (Or.inl ⟨by rfl, ?_⟩) hS ?_
  rotate_left
  focus ((intro w hSw; (try dsimp only at hSw); obtain ⟨d0, d1, d2⟩ := HC10.out w hSw; go_simp); (try with_reducible rfl))
  (try simp only [Act.put, List.setIfInBounds_toArray, List.set_cons_zero, List.set_cons_succ])
  refine wpAnyZ_take (i := 12) (oi := { dst := some 55, op := _, type := _, pos := _, after := _, guard := _ }) (v := ?_) rfl (by kernel_rfl) (by kernel_rfl) (by kernel_rfl) (by kernel_rfl) (fun _ _ _ h => h) (Or.inl ⟨by rfl, ?_⟩) hS ?_
  rotate_left
  focus ((intro w hSw; (try dsimp only at hSw); obtain ⟨d0, d1, d2⟩ := HC10.out w hSw; go_simp); (try with_reducible rfl))
  (try simp only [Act.put, List.setIfInBounds_toArray, List.set_cons_zero, List.set_cons_succ])
  refine wpAnyZ_take (i := 13) (oi := { dst := some 56, op := _, type := _, pos := _, after := _, guard := _ }) (v := ?_) rfl (by kernel_rfl) (by kernel_rfl) (by kernel_rfl) (by kernel_rfl) (fun _ _ _ h => h) (Or.inl ⟨by rfl, ?_⟩) hS ?_
  rotate_left
  focus ((intro w hSw; (try dsimp only at hSw); obtain ⟨d0, d1, d2⟩ := HC10.out w hSw; go_simp); (try with_reducible rfl))
  (try simp only [Act.put, List.setIfInBounds_toArray, List.set_cons_zero, List.set_cons_succ])
  refine wpAnyZ_take (i := 14) (oi := { dst := some 57, op := _, type := _, pos := _, after := _, guard := _ }) (v := ?_) rfl (by kernel_rfl) (by kernel_rfl) (by kernel_rfl) (by kernel_rfl) (fun _ _ _ h => h) (Or.inl ⟨by rfl, ?_⟩) hS ?_
  rotate_left
  focus ((intro w hSw; (try dsimp only at hSw); obtain ⟨d0, d1, d2⟩ := HC10.out w hSw; go_simp); (try with_reducible rfl))
  (try simp only [Act.put, List.setIfInBounds_toArray, List.set_cons_zero, List.set_cons_succ])
  refine wpAnyZ_take (i := 15) (oi := { dst := some 58, op := _, type := _, pos := _, after := _, guard := _ }) (v := ?_) rfl (by kernel_rfl) (by kernel_rfl) (by kernel_rfl) (by kernel_rfl) (fun _ _ _ h => h) (Or.inl ⟨by rfl, ?_⟩) hS ?_
  rotate_left
  focus ((intro w hSw; (try dsimp only at hSw); obtain ⟨d0, d1, d2⟩ := HC10.out w hSw; go_simp); (try with_reducible rfl))
  (try simp only [Act.put, List.setIfInBounds_toArray, List.set_cons_zero, List.set_cons_succ])
  refine wpAnyZ_take (i := 16) (oi := { dst := some 59, op := _, type := _, pos := _, after := _, guard := _ }) (v := ?_) rfl (by kernel_rfl) (by kernel_rfl) (by kernel_rfl) (by kernel_rfl) (fun _ _ _ h => h) (Or.inl ⟨by rfl, ?_⟩) hS ?_
  rotate_left
  focus ((intro w hSw; (try dsimp only at hSw); obtain ⟨d0, d1, d2⟩ := HC10.out w hSw; go_simp); (try with_reducible rfl))
  (try simp only [Act.put, List.setIfInBounds_toArray, List.set_cons_zero, List.set_cons_succ])
  refine wpAnyZ_take (i := 18) (oi := { dst := some 61, op := _, type := _, pos := _, after := _, guard := _ }) (v := ?_) rfl (by kernel_rfl) (by kernel_rfl) (by kernel_rfl) (by kernel_rfl) (fun _ _ _ h => h) (Or.inl ⟨by rfl, ?_⟩) hS ?_
  rotate_left
  focus ((intro w hSw; (try dsimp only at hSw); obtain ⟨d0, d1, d2⟩ := HC10.out w hSw; go_simp); (try with_reducible rfl))
  (try simp only [Act.put, List.setIfInBounds_toArray, List.set_cons_zero, List.set_cons_succ])
  refine wpAnyZ_all (rs := [17, 20]) (by kernel_rfl) (by simp) (fun i hi => ?_)
  simp only [List.mem_cons, List.not_mem_nil, or_false] at hi
  rcases hi with rfl | rfl
  · skip
    refine stepZ (o := { dst := some 60, op := _, type := _, pos := _, after := _, guard := _ }) rfl (fun K hK => ?_)
    go_simp
    refine (valueP ty g A n c bs wd HCC.out HP.out).mono ?_
    rintro e wn ⟨vt, vi, vs, rfl, hv, hp, hf⟩
    have HP := Lib.hid hp
    have HFN := Lib.hid hf
    have HROW := Lib.hid (HROW.out.far hf)
    have hS : (fun W : World => Far g w4 W) wn := Far.trans hS hf
    refine hK _ _ hS ?_
    clear hK hp hf hv
    (try simp only [Act.put, List.setIfInBounds_toArray, List.set_cons_zero, List.set_cons_succ])
    refine wpAnyZ_take (i := 19) (oi := { dst := some 62, op := _, type := _, pos := _, after := _, guard := _ }) (v := ?_) rfl (by kernel_rfl) (by kernel_rfl) (by kernel_rfl) (by kernel_rfl) (fun _ _ _ h => h) (Or.inl ⟨by rfl, ?_⟩) hS ?_
    rotate_left
    focus ((intro w hSw; (try dsimp only at hSw); obtain ⟨d0, d1, d2⟩ := HC10.out w hSw; go_simp); (try with_reducible rfl))
    (try simp only [Act.put, List.setIfInBounds_toArray, List.set_cons_zero, List.set_cons_succ])
    refine wpAnyZ_all (rs := [20]) (by kernel_rfl) (by simp) (fun i hi => ?_)
    simp only [List.mem_cons, List.not_mem_nil, or_false] at hi
    subst hi
    refine stepZ (o := { dst := some 14, op := _, type := _, pos := _, after := _, guard := _ }) rfl (fun K hK => ?_)
    go_simp
    obtain ⟨gt, hgt⟩ : ∃ x, (wn).heap.size = x := ⟨_, rfl⟩
    obtain ⟨wl, hwl⟩ : ∃ x, (wn).alloc (.cells #[.string ⟨#[]⟩, .int .i64 0, .int .i64 0, .int .i64 0, .string ⟨#[]⟩, .bool false, .bool false] 28) = x := ⟨_, rfl⟩
    have ll : Later wn wl := hwl ▸ Later.new _ _
    have HBT := Lib.hid (hwl ▸ Blk.new wn #[.string ⟨#[]⟩, .int .i64 0, .int .i64 0, .int .i64 0, .string ⟨#[]⟩, .bool false, .bool false] 28 gt hgt.symm)
    have HGT := Lib.hid (show w4.heap.size ≤ gt by rw [← hgt]; exact Far.size hS)
    have HTQ := Lib.hid (show gt ≠ q by have : q < (wn).heap.size := Nat.lt_of_lt_of_le hqd HFN.out.size; omega)
    try rw [hgt]
    rw [hwl]
    have HP := Lib.hid (HP.out.later ll)
    have HROW := Lib.hid (HROW.out.later ll)
    have hS : (fun W : World => Far g w4 W) wl := Far.later hS ll
    refine hK _ _ hS ?_
    clear hK hwl ll hgt
    (try simp only [Act.put, List.setIfInBounds_toArray, List.set_cons_zero, List.set_cons_succ])
    refine wpAnyZ_all (rs := [21]) (by kernel_rfl) (by simp) (fun i hi => ?_)
    simp only [List.mem_cons, List.not_mem_nil, or_false] at hi
    subst hi
    have B := HBT.out
    have u := Below.refl w4.heap.size wl
    have x0 := B.cell 0 _ rfl
    have y0 := B.frozen 0
    have B := B.set_ 0 (.string nm)
    have u : Below w4.heap.size wl ((wl).setCell ⟨gt, 0, none⟩ (.string nm)) := u.setCell (p := ⟨gt, 0, none⟩) HGT.out _
    have HROW := Lib.hid (HROW.out.off (p := ⟨gt, 0, none⟩) HTQ.out.symm (.string nm))
    obtain ⟨wv0, hwv0⟩ : ∃ x, (wl).setCell ⟨gt, 0, none⟩ (.string nm) = x := ⟨_, rfl⟩
    rw [hwv0] at B u HROW
    have x1 := B.cell 1 _ rfl
    have y1 := B.frozen 1
    have B := B.set_ 1 (.int .i64 (1 + (o6 : Int)))
    have u : Below w4.heap.size wl ((wv0).setCell ⟨gt, 1, none⟩ (.int .i64 (1 + (o6 : Int)))) := u.setCell (p := ⟨gt, 1, none⟩) HGT.out _
    have HROW := Lib.hid (HROW.out.off (p := ⟨gt, 1, none⟩) HTQ.out.symm (.int .i64 (1 + (o6 : Int))))
    obtain ⟨wv1, hwv1⟩ : ∃ x, (wv0).setCell ⟨gt, 1, none⟩ (.int .i64 (1 + (o6 : Int))) = x := ⟨_, rfl⟩
    rw [hwv1] at B u HROW
    have x2 := B.cell 2 _ rfl
    have y2 := B.frozen 2
    have B := B.set_ 2 (.int .i64 vt)
    have u : Below w4.heap.size wl ((wv1).setCell ⟨gt, 2, none⟩ (.int .i64 vt)) := u.setCell (p := ⟨gt, 2, none⟩) HGT.out _
    have HROW := Lib.hid (HROW.out.off (p := ⟨gt, 2, none⟩) HTQ.out.symm (.int .i64 vt))
    obtain ⟨wv2, hwv2⟩ : ∃ x, (wv1).setCell ⟨gt, 2, none⟩ (.int .i64 vt) = x := ⟨_, rfl⟩
    rw [hwv2] at B u HROW
    have x3 := B.cell 3 _ rfl
    have y3 := B.frozen 3
    have B := B.set_ 3 (.int .i64 vi)
    have u : Below w4.heap.size wl ((wv2).setCell ⟨gt, 3, none⟩ (.int .i64 vi)) := u.setCell (p := ⟨gt, 3, none⟩) HGT.out _
    have HROW := Lib.hid (HROW.out.off (p := ⟨gt, 3, none⟩) HTQ.out.symm (.int .i64 vi))
    obtain ⟨wv3, hwv3⟩ : ∃ x, (wv2).setCell ⟨gt, 3, none⟩ (.int .i64 vi) = x := ⟨_, rfl⟩
    rw [hwv3] at B u HROW
    have x4 := B.cell 4 _ rfl
    have y4 := B.frozen 4
    have B := B.set_ 4 (.string vs)
    have u : Below w4.heap.size wl ((wv3).setCell ⟨gt, 4, none⟩ (.string vs)) := u.setCell (p := ⟨gt, 4, none⟩) HGT.out _
    have HROW := Lib.hid (HROW.out.off (p := ⟨gt, 4, none⟩) HTQ.out.symm (.string vs))
    obtain ⟨wv4, hwv4⟩ : ∃ x, (wv3).setCell ⟨gt, 4, none⟩ (.string vs) = x := ⟨_, rfl⟩
    rw [hwv4] at B u HROW
    have x5 := B.cell 5 _ rfl
    have y5 := B.frozen 5
    have B := B.set_ 5 (.bool false)
    have u : Below w4.heap.size wl ((wv4).setCell ⟨gt, 5, none⟩ (.bool false)) := u.setCell (p := ⟨gt, 5, none⟩) HGT.out _
    have HROW := Lib.hid (HROW.out.off (p := ⟨gt, 5, none⟩) HTQ.out.symm (.bool false))
    obtain ⟨wv5, hwv5⟩ : ∃ x, (wv4).setCell ⟨gt, 5, none⟩ (.bool false) = x := ⟨_, rfl⟩
    rw [hwv5] at B u HROW
    have x6 := B.cell 6 _ rfl
    have y6 := B.frozen 6
    have B := B.set_ 6 (.bool nt)
    have u : Below w4.heap.size wl ((wv5).setCell ⟨gt, 6, none⟩ (.bool nt)) := u.setCell (p := ⟨gt, 6, none⟩) HGT.out _
    have HROW := Lib.hid (HROW.out.off (p := ⟨gt, 6, none⟩) HTQ.out.symm (.bool nt))
    obtain ⟨wv6, hwv6⟩ : ∃ x, (wv5).setCell ⟨gt, 6, none⟩ (.bool nt) = x := ⟨_, rfl⟩
    rw [hwv6] at B u HROW
    refine stepZl (o := { dst := none, op := _, type := _, pos := _, after := _, guard := _ }) rfl (fun K hK => ?_)
    go_simp
    refine hK _ _ ?_
    have HFZ := Lib.hid (Far.below hS u)
    have HBT := Lib.hid (show Blk wv6 gt (tcs nm (1 + (o6 : Int)) vt vi vs false nt) 28 from B)
    clear hK B u x0 y0 hwv0 x1 y1 hwv1 x2 y2 hwv2 x3 y3 hwv3 x4 y4 hwv4 x5 y5 hwv5 x6 y6 hwv6
    (try simp only [Act.put, List.setIfInBounds_toArray, List.set_cons_zero, List.set_cons_succ])
    refine wpAnyZ_done (by kernel_rfl) ?_ _
    go_wp2_with fail
    have hS : (fun W : World => Blk W gt (tcs nm (1 + (o6 : Int)) vt vi vs false nt) 28 ∧ Far g w4 W) wv6.drew := ⟨HBT.out.later (Later.refl _).drew, HFZ.out.later (Later.refl _).drew⟩
    have HROW := Lib.hid (HROW.out.later (Later.refl _).drew)
    refine wp_region_Z (S := (fun W : World => Blk W gt (tcs nm (1 + (o6 : Int)) vt vi vs false nt) 28 ∧ Far g w4 W)) 5 (by kernel_rfl) ?_
    obtain ⟨we, hwe⟩ : ∃ x, wv6.drew = x := ⟨_, rfl⟩
    rw [hwe] at hS HROW ⊢
    clear hwe HBT HFZ
    refine wpAnyZ_take (i := 0) (oi := { dst := some 63, op := _, type := _, pos := _, after := _, guard := _ }) (v := ?_) rfl (by kernel_rfl) (by kernel_rfl) (by kernel_rfl) (by kernel_rfl) (fun _ _ _ h => h) (Or.inl ⟨by rfl, ?_⟩) hS ?_
    rotate_left
    focus ((intro w hSw; (try dsimp only at hSw); obtain ⟨hB, _⟩ := hSw; have d0 := hB.cell 0 _ rfl; have d1 := hB.cell 1 _ rfl; have d2 := hB.cell 2 _ rfl; have d3 := hB.cell 3 _ rfl; have d4 := hB.cell 4 _ rfl; have d5 := hB.cell 5 _ rfl; have d6 := hB.cell 6 _ rfl; go_simp); (try with_reducible rfl))
    (try simp only [Act.put, List.setIfInBounds_toArray, List.set_cons_zero, List.set_cons_succ])
    refine wpAnyZ_take (i := 1) (oi := { dst := some 64, op := _, type := _, pos := _, after := _, guard := _ }) (v := ?_) rfl (by kernel_rfl) (by kernel_rfl) (by kernel_rfl) (by kernel_rfl) (fun _ _ _ h => h) (Or.inl ⟨by rfl, ?_⟩) hS ?_
    rotate_left
    focus ((intro w hSw; (try dsimp only at hSw); obtain ⟨hB, _⟩ := hSw; have d0 := hB.cell 0 _ rfl; have d1 := hB.cell 1 _ rfl; have d2 := hB.cell 2 _ rfl; have d3 := hB.cell 3 _ rfl; have d4 := hB.cell 4 _ rfl; have d5 := hB.cell 5 _ rfl; have d6 := hB.cell 6 _ rfl; go_simp); (try with_reducible rfl))
    (try simp only [Act.put, List.setIfInBounds_toArray, List.set_cons_zero, List.set_cons_succ])
    refine wpAnyZ_all (rs := [2, 3]) (by kernel_rfl) (by simp) (fun i hi => ?_)
    simp only [List.mem_cons, List.not_mem_nil, or_false] at hi
    rcases hi with rfl | rfl
    · skip
      refine stepZ (o := { dst := some 15, op := _, type := _, pos := _, after := _, guard := _ }) rfl (fun K hK => ?_)
      go_simp
      obtain ⟨b15, hb⟩ : ∃ x, (we).heap.size = x := ⟨_, rfl⟩
      obtain ⟨wl15, hwl⟩ : ∃ x, (we).alloc (.cells #[.string ⟨#[]⟩, .int .i64 0, .int .i64 0, .int .i64 0, .string ⟨#[]⟩, .bool false, .bool false] 28) = x := ⟨_, rfl⟩
      have ll : Later we wl15 := hwl ▸ Later.new _ _
      have n15 : gt < b15 ∧ q < b15 ∧ w4.heap.size ≤ b15 := by rw [← hb]; exact ⟨Blk.lt hS.1, HROW.out.lt HNE.out, Far.size hS.2⟩
      
      have HB15 := Lib.hid (hwl ▸ Blk.new we #[.string ⟨#[]⟩, .int .i64 0, .int .i64 0, .int .i64 0, .string ⟨#[]⟩, .bool false, .bool false] 28 b15 hb.symm)
      
      try rw [hb]
      rw [hwl]
      have HROW := Lib.hid (HROW.out.later ll)
      have hS : (fun W : World => Blk W gt (tcs nm (1 + (o6 : Int)) vt vi vs false nt) 28 ∧ Far g w4 W) wl15 := ⟨Blk.later hS.1 ll, Far.later hS.2 ll⟩
      refine hK _ _ hS ?_
      clear hK hwl ll hb
      (try simp only [Act.put, List.setIfInBounds_toArray, List.set_cons_zero, List.set_cons_succ])
      refine wpAnyZ_all (rs := [3]) (by kernel_rfl) (by simp) (fun i hi => ?_)
      simp only [List.mem_cons, List.not_mem_nil, or_false] at hi
      subst hi
      refine stepZ (o := { dst := some 16, op := _, type := _, pos := _, after := _, guard := _ }) rfl (fun K hK => ?_)
      go_simp
      obtain ⟨b16, hb⟩ : ∃ x, (wl15).heap.size = x := ⟨_, rfl⟩
      obtain ⟨wl16, hwl⟩ : ∃ x, (wl15).alloc (.cells #[.string ⟨#[]⟩, .int .i64 0, .int .i64 0, .int .i64 0, .string ⟨#[]⟩, .bool false, .bool false] 28) = x := ⟨_, rfl⟩
      have ll : Later wl15 wl16 := hwl ▸ Later.new _ _
      have n16 : gt < b16 ∧ q < b16 ∧ w4.heap.size ≤ b16 := by rw [← hb]; exact ⟨Blk.lt hS.1, HROW.out.lt HNE.out, Far.size hS.2⟩
      have n12 : b15 < b16 := by rw [← hb]; exact HB15.out.lt
      have HB16 := Lib.hid (hwl ▸ Blk.new wl15 #[.string ⟨#[]⟩, .int .i64 0, .int .i64 0, .int .i64 0, .string ⟨#[]⟩, .bool false, .bool false] 28 b16 hb.symm)
      have HB15 := Lib.hid (HB15.out.later ll)
      try rw [hb]
      rw [hwl]
      have HROW := Lib.hid (HROW.out.later ll)
      have hS : (fun W : World => Blk W gt (tcs nm (1 + (o6 : Int)) vt vi vs false nt) 28 ∧ Far g w4 W) wl16 := ⟨Blk.later hS.1 ll, Far.later hS.2 ll⟩
      refine hK _ _ hS ?_
      clear hK hwl ll hb
      (try simp only [Act.put, List.setIfInBounds_toArray, List.set_cons_zero, List.set_cons_succ])
      refine wpAnyZ_all (rs := [4]) (by kernel_rfl) (by simp) (fun i hi => ?_)
      simp only [List.mem_cons, List.not_mem_nil, or_false] at hi
      subst hi
      have B := HB15.out
      have O := HB16.out
      have G := hS.1
      have u := Below.refl w4.heap.size wl16
      have x0 := B.cell 0 _ rfl
      have y0 := B.frozen 0
      have B := B.set_ 0 (.string nm)
      have O := Blk.off O (p := ⟨b15, 0, none⟩) (by show b16 ≠ b15; omega) (.string nm)
      have G := Blk.off G (p := ⟨b15, 0, none⟩) (by show gt ≠ b15; omega) (.string nm)
      have u : Below w4.heap.size wl16 ((wl16).setCell ⟨b15, 0, none⟩ (.string nm)) := u.setCell (p := ⟨b15, 0, none⟩) (by show w4.heap.size ≤ b15; omega) _
      have HROW := Lib.hid (HROW.out.off (p := ⟨b15, 0, none⟩) (by show q ≠ b15; omega) (.string nm))
      obtain ⟨wa0, hwwa0⟩ : ∃ x, (wl16).setCell ⟨b15, 0, none⟩ (.string nm) = x := ⟨_, rfl⟩
      rw [hwwa0] at B O G u HROW
      have x1 := B.cell 1 _ rfl
      have y1 := B.frozen 1
      have B := B.set_ 1 (.int .i64 (1 + (o6 : Int)))
      have O := Blk.off O (p := ⟨b15, 1, none⟩) (by show b16 ≠ b15; omega) (.int .i64 (1 + (o6 : Int)))
      have G := Blk.off G (p := ⟨b15, 1, none⟩) (by show gt ≠ b15; omega) (.int .i64 (1 + (o6 : Int)))
      have u : Below w4.heap.size wl16 ((wa0).setCell ⟨b15, 1, none⟩ (.int .i64 (1 + (o6 : Int)))) := u.setCell (p := ⟨b15, 1, none⟩) (by show w4.heap.size ≤ b15; omega) _
      have HROW := Lib.hid (HROW.out.off (p := ⟨b15, 1, none⟩) (by show q ≠ b15; omega) (.int .i64 (1 + (o6 : Int))))
      obtain ⟨wa1, hwwa1⟩ : ∃ x, (wa0).setCell ⟨b15, 1, none⟩ (.int .i64 (1 + (o6 : Int))) = x := ⟨_, rfl⟩
      rw [hwwa1] at B O G u HROW
      have x2 := B.cell 2 _ rfl
      have y2 := B.frozen 2
      have B := B.set_ 2 (.int .i64 vt)
      have O := Blk.off O (p := ⟨b15, 2, none⟩) (by show b16 ≠ b15; omega) (.int .i64 vt)
      have G := Blk.off G (p := ⟨b15, 2, none⟩) (by show gt ≠ b15; omega) (.int .i64 vt)
      have u : Below w4.heap.size wl16 ((wa1).setCell ⟨b15, 2, none⟩ (.int .i64 vt)) := u.setCell (p := ⟨b15, 2, none⟩) (by show w4.heap.size ≤ b15; omega) _
      have HROW := Lib.hid (HROW.out.off (p := ⟨b15, 2, none⟩) (by show q ≠ b15; omega) (.int .i64 vt))
      obtain ⟨wa2, hwwa2⟩ : ∃ x, (wa1).setCell ⟨b15, 2, none⟩ (.int .i64 vt) = x := ⟨_, rfl⟩
      rw [hwwa2] at B O G u HROW
      have x3 := B.cell 3 _ rfl
      have y3 := B.frozen 3
      have B := B.set_ 3 (.int .i64 vi)
      have O := Blk.off O (p := ⟨b15, 3, none⟩) (by show b16 ≠ b15; omega) (.int .i64 vi)
      have G := Blk.off G (p := ⟨b15, 3, none⟩) (by show gt ≠ b15; omega) (.int .i64 vi)
      have u : Below w4.heap.size wl16 ((wa2).setCell ⟨b15, 3, none⟩ (.int .i64 vi)) := u.setCell (p := ⟨b15, 3, none⟩) (by show w4.heap.size ≤ b15; omega) _
      have HROW := Lib.hid (HROW.out.off (p := ⟨b15, 3, none⟩) (by show q ≠ b15; omega) (.int .i64 vi))
      obtain ⟨wa3, hwwa3⟩ : ∃ x, (wa2).setCell ⟨b15, 3, none⟩ (.int .i64 vi) = x := ⟨_, rfl⟩
      rw [hwwa3] at B O G u HROW
      have x4 := B.cell 4 _ rfl
      have y4 := B.frozen 4
      have B := B.set_ 4 (.string vs)
      have O := Blk.off O (p := ⟨b15, 4, none⟩) (by show b16 ≠ b15; omega) (.string vs)
      have G := Blk.off G (p := ⟨b15, 4, none⟩) (by show gt ≠ b15; omega) (.string vs)
      have u : Below w4.heap.size wl16 ((wa3).setCell ⟨b15, 4, none⟩ (.string vs)) := u.setCell (p := ⟨b15, 4, none⟩) (by show w4.heap.size ≤ b15; omega) _
      have HROW := Lib.hid (HROW.out.off (p := ⟨b15, 4, none⟩) (by show q ≠ b15; omega) (.string vs))
      obtain ⟨wa4, hwwa4⟩ : ∃ x, (wa3).setCell ⟨b15, 4, none⟩ (.string vs) = x := ⟨_, rfl⟩
      rw [hwwa4] at B O G u HROW
      have x5 := B.cell 5 _ rfl
      have y5 := B.frozen 5
      have B := B.set_ 5 (.bool false)
      have O := Blk.off O (p := ⟨b15, 5, none⟩) (by show b16 ≠ b15; omega) (.bool false)
      have G := Blk.off G (p := ⟨b15, 5, none⟩) (by show gt ≠ b15; omega) (.bool false)
      have u : Below w4.heap.size wl16 ((wa4).setCell ⟨b15, 5, none⟩ (.bool false)) := u.setCell (p := ⟨b15, 5, none⟩) (by show w4.heap.size ≤ b15; omega) _
      have HROW := Lib.hid (HROW.out.off (p := ⟨b15, 5, none⟩) (by show q ≠ b15; omega) (.bool false))
      obtain ⟨wa5, hwwa5⟩ : ∃ x, (wa4).setCell ⟨b15, 5, none⟩ (.bool false) = x := ⟨_, rfl⟩
      rw [hwwa5] at B O G u HROW
      have x6 := B.cell 6 _ rfl
      have y6 := B.frozen 6
      have B := B.set_ 6 (.bool nt)
      have O := Blk.off O (p := ⟨b15, 6, none⟩) (by show b16 ≠ b15; omega) (.bool nt)
      have G := Blk.off G (p := ⟨b15, 6, none⟩) (by show gt ≠ b15; omega) (.bool nt)
      have u : Below w4.heap.size wl16 ((wa5).setCell ⟨b15, 6, none⟩ (.bool nt)) := u.setCell (p := ⟨b15, 6, none⟩) (by show w4.heap.size ≤ b15; omega) _
      have HROW := Lib.hid (HROW.out.off (p := ⟨b15, 6, none⟩) (by show q ≠ b15; omega) (.bool nt))
      obtain ⟨wa6, hwwa6⟩ : ∃ x, (wa5).setCell ⟨b15, 6, none⟩ (.bool nt) = x := ⟨_, rfl⟩
      rw [hwwa6] at B O G u HROW
      refine stepZ (o := { dst := none, op := _, type := _, pos := _, after := _, guard := _ }) rfl (fun K hK => ?_)
      go_simp
      have hS : (fun W : World => Blk W gt (tcs nm (1 + (o6 : Int)) vt vi vs false nt) 28 ∧ Far g w4 W) wa6 := ⟨G, Far.below hS.2 u⟩
      refine hK _ _ hS ?_
      have HB15 := Lib.hid (show Blk wa6 b15 (tcs nm (1 + (o6 : Int)) vt vi vs false nt) 28 from B)
      have HB16 := Lib.hid O
      clear hK B O G u x0 y0 hwwa0 x1 y1 hwwa1 x2 y2 hwwa2 x3 y3 hwwa3 x4 y4 hwwa4 x5 y5 hwwa5 x6 y6 hwwa6
      (try simp only [Act.put, List.setIfInBounds_toArray, List.set_cons_zero, List.set_cons_succ])
      refine wpAnyZ_all (rs := [5]) (by kernel_rfl) (by simp) (fun i hi => ?_)
      simp only [List.mem_cons, List.not_mem_nil, or_false] at hi
      subst hi
      have B := HB16.out
      have O := HB15.out
      have G := hS.1
      have u := Below.refl w4.heap.size wa6
      have x0 := B.cell 0 _ rfl
      have y0 := B.frozen 0
      have B := B.set_ 0 (.string nm)
      have O := Blk.off O (p := ⟨b16, 0, none⟩) (by show b15 ≠ b16; omega) (.string nm)
      have G := Blk.off G (p := ⟨b16, 0, none⟩) (by show gt ≠ b16; omega) (.string nm)
      have u : Below w4.heap.size wa6 ((wa6).setCell ⟨b16, 0, none⟩ (.string nm)) := u.setCell (p := ⟨b16, 0, none⟩) (by show w4.heap.size ≤ b16; omega) _
      have HROW := Lib.hid (HROW.out.off (p := ⟨b16, 0, none⟩) (by show q ≠ b16; omega) (.string nm))
      obtain ⟨wb0, hwwb0⟩ : ∃ x, (wa6).setCell ⟨b16, 0, none⟩ (.string nm) = x := ⟨_, rfl⟩
      rw [hwwb0] at B O G u HROW
      have x1 := B.cell 1 _ rfl
      have y1 := B.frozen 1
      have B := B.set_ 1 (.int .i64 (1 + (o6 : Int)))
      have O := Blk.off O (p := ⟨b16, 1, none⟩) (by show b15 ≠ b16; omega) (.int .i64 (1 + (o6 : Int)))
      have G := Blk.off G (p := ⟨b16, 1, none⟩) (by show gt ≠ b16; omega) (.int .i64 (1 + (o6 : Int)))
      have u : Below w4.heap.size wa6 ((wb0).setCell ⟨b16, 1, none⟩ (.int .i64 (1 + (o6 : Int)))) := u.setCell (p := ⟨b16, 1, none⟩) (by show w4.heap.size ≤ b16; omega) _
      have HROW := Lib.hid (HROW.out.off (p := ⟨b16, 1, none⟩) (by show q ≠ b16; omega) (.int .i64 (1 + (o6 : Int))))
      obtain ⟨wb1, hwwb1⟩ : ∃ x, (wb0).setCell ⟨b16, 1, none⟩ (.int .i64 (1 + (o6 : Int))) = x := ⟨_, rfl⟩
      rw [hwwb1] at B O G u HROW
      have x2 := B.cell 2 _ rfl
      have y2 := B.frozen 2
      have B := B.set_ 2 (.int .i64 vt)
      have O := Blk.off O (p := ⟨b16, 2, none⟩) (by show b15 ≠ b16; omega) (.int .i64 vt)
      have G := Blk.off G (p := ⟨b16, 2, none⟩) (by show gt ≠ b16; omega) (.int .i64 vt)
      have u : Below w4.heap.size wa6 ((wb1).setCell ⟨b16, 2, none⟩ (.int .i64 vt)) := u.setCell (p := ⟨b16, 2, none⟩) (by show w4.heap.size ≤ b16; omega) _
      have HROW := Lib.hid (HROW.out.off (p := ⟨b16, 2, none⟩) (by show q ≠ b16; omega) (.int .i64 vt))
      obtain ⟨wb2, hwwb2⟩ : ∃ x, (wb1).setCell ⟨b16, 2, none⟩ (.int .i64 vt) = x := ⟨_, rfl⟩
      rw [hwwb2] at B O G u HROW
      have x3 := B.cell 3 _ rfl
      have y3 := B.frozen 3
      have B := B.set_ 3 (.int .i64 vi)
      have O := Blk.off O (p := ⟨b16, 3, none⟩) (by show b15 ≠ b16; omega) (.int .i64 vi)
      have G := Blk.off G (p := ⟨b16, 3, none⟩) (by show gt ≠ b16; omega) (.int .i64 vi)
      have u : Below w4.heap.size wa6 ((wb2).setCell ⟨b16, 3, none⟩ (.int .i64 vi)) := u.setCell (p := ⟨b16, 3, none⟩) (by show w4.heap.size ≤ b16; omega) _
      have HROW := Lib.hid (HROW.out.off (p := ⟨b16, 3, none⟩) (by show q ≠ b16; omega) (.int .i64 vi))
      obtain ⟨wb3, hwwb3⟩ : ∃ x, (wb2).setCell ⟨b16, 3, none⟩ (.int .i64 vi) = x := ⟨_, rfl⟩
      rw [hwwb3] at B O G u HROW
      have x4 := B.cell 4 _ rfl
      have y4 := B.frozen 4
      have B := B.set_ 4 (.string vs)
      have O := Blk.off O (p := ⟨b16, 4, none⟩) (by show b15 ≠ b16; omega) (.string vs)
      have G := Blk.off G (p := ⟨b16, 4, none⟩) (by show gt ≠ b16; omega) (.string vs)
      have u : Below w4.heap.size wa6 ((wb3).setCell ⟨b16, 4, none⟩ (.string vs)) := u.setCell (p := ⟨b16, 4, none⟩) (by show w4.heap.size ≤ b16; omega) _
      have HROW := Lib.hid (HROW.out.off (p := ⟨b16, 4, none⟩) (by show q ≠ b16; omega) (.string vs))
      obtain ⟨wb4, hwwb4⟩ : ∃ x, (wb3).setCell ⟨b16, 4, none⟩ (.string vs) = x := ⟨_, rfl⟩
      rw [hwwb4] at B O G u HROW
      have x5 := B.cell 5 _ rfl
      have y5 := B.frozen 5
      have B := B.set_ 5 (.bool false)
      have O := Blk.off O (p := ⟨b16, 5, none⟩) (by show b15 ≠ b16; omega) (.bool false)
      have G := Blk.off G (p := ⟨b16, 5, none⟩) (by show gt ≠ b16; omega) (.bool false)
      have u : Below w4.heap.size wa6 ((wb4).setCell ⟨b16, 5, none⟩ (.bool false)) := u.setCell (p := ⟨b16, 5, none⟩) (by show w4.heap.size ≤ b16; omega) _
      have HROW := Lib.hid (HROW.out.off (p := ⟨b16, 5, none⟩) (by show q ≠ b16; omega) (.bool false))
      obtain ⟨wb5, hwwb5⟩ : ∃ x, (wb4).setCell ⟨b16, 5, none⟩ (.bool false) = x := ⟨_, rfl⟩
      rw [hwwb5] at B O G u HROW
      have x6 := B.cell 6 _ rfl
      have y6 := B.frozen 6
      have B := B.set_ 6 (.bool nt)
      have O := Blk.off O (p := ⟨b16, 6, none⟩) (by show b15 ≠ b16; omega) (.bool nt)
      have G := Blk.off G (p := ⟨b16, 6, none⟩) (by show gt ≠ b16; omega) (.bool nt)
      have u : Below w4.heap.size wa6 ((wb5).setCell ⟨b16, 6, none⟩ (.bool nt)) := u.setCell (p := ⟨b16, 6, none⟩) (by show w4.heap.size ≤ b16; omega) _
      have HROW := Lib.hid (HROW.out.off (p := ⟨b16, 6, none⟩) (by show q ≠ b16; omega) (.bool nt))
      obtain ⟨wb6, hwwb6⟩ : ∃ x, (wb5).setCell ⟨b16, 6, none⟩ (.bool nt) = x := ⟨_, rfl⟩
      rw [hwwb6] at B O G u HROW
      refine stepZl (o := { dst := none, op := _, type := _, pos := _, after := _, guard := _ }) rfl (fun K hK => ?_)
      go_simp
      refine hK _ _ ?_
      have hS : (fun W : World => Blk W gt (tcs nm (1 + (o6 : Int)) vt vi vs false nt) 28 ∧ Far g w4 W) wb6 := ⟨G, Far.below hS.2 u⟩
      have HB16 := Lib.hid (show Blk wb6 b16 (tcs nm (1 + (o6 : Int)) vt vi vs false nt) 28 from B)
      have HB15 := Lib.hid O
      clear hK B O G u x0 y0 hwwb0 x1 y1 hwwb1 x2 y2 hwwb2 x3 y3 hwwb3 x4 y4 hwwb4 x5 y5 hwwb5 x6 y6 hwwb6
      (try simp only [Act.put, List.setIfInBounds_toArray, List.set_cons_zero, List.set_cons_succ])
      refine wpAnyZ_done (by kernel_rfl) ?_ _
      have B := HB15.out
      have O := HB16.out
      have G := hS.1
      have u := Below.refl w4.heap.size wb6
      have x1 := B.cell 1 _ rfl
      have y1 := B.frozen 1
      have B := B.set_ 1 (.int .i64 7)
      have O := Blk.off O (p := ⟨b15, 1, none⟩) (by show b16 ≠ b15; omega) (.int .i64 7)
      have G := Blk.off G (p := ⟨b15, 1, none⟩) (by show gt ≠ b15; omega) (.int .i64 7)
      have u : Below w4.heap.size wb6 ((wb6).setCell ⟨b15, 1, none⟩ (.int .i64 7)) := u.setCell (p := ⟨b15, 1, none⟩) (by show w4.heap.size ≤ b15; omega) _
      have HROW := Lib.hid (HROW.out.off (p := ⟨b15, 1, none⟩) (by show q ≠ b15; omega) (.int .i64 7))
      obtain ⟨wc1, hwwc1⟩ : ∃ x, (wb6).setCell ⟨b15, 1, none⟩ (.int .i64 7) = x := ⟨_, rfl⟩
      rw [hwwc1] at B O G u HROW
      have HB15 := Lib.hid (show Blk wc1 b15 (tcs nm 7 vt vi vs false nt) 28 from B)
      have HB16 := Lib.hid O
      have hS : (fun W : World => Blk W gt (tcs nm (1 + (o6 : Int)) vt vi vs false nt) 28 ∧ Far g w4 W) wc1 := ⟨G, Far.below hS.2 u⟩
      have p1 := x1
      have q1 := y1
      clear B O G u x1 y1
      have B := HB16.out
      have O := HB15.out
      have G := hS.1
      have u := Below.refl w4.heap.size wc1
      have x1 := B.cell 1 _ rfl
      have y1 := B.frozen 1
      have B := B.set_ 1 (.int .i64 8)
      have O := Blk.off O (p := ⟨b16, 1, none⟩) (by show b15 ≠ b16; omega) (.int .i64 8)
      have G := Blk.off G (p := ⟨b16, 1, none⟩) (by show gt ≠ b16; omega) (.int .i64 8)
      have u : Below w4.heap.size wc1 ((wc1).setCell ⟨b16, 1, none⟩ (.int .i64 8)) := u.setCell (p := ⟨b16, 1, none⟩) (by show w4.heap.size ≤ b16; omega) _
      have HROW := Lib.hid (HROW.out.off (p := ⟨b16, 1, none⟩) (by show q ≠ b16; omega) (.int .i64 8))
      obtain ⟨wd_1, hwwd_1⟩ : ∃ x, (wc1).setCell ⟨b16, 1, none⟩ (.int .i64 8) = x := ⟨_, rfl⟩
      rw [hwwd_1] at B O G u HROW
      have HB16 := Lib.hid (show Blk wd_1 b16 (tcs nm 8 vt vi vs false nt) 28 from B)
      have HB15 := Lib.hid O
      have HG := Lib.hid G
      have HFZ := Lib.hid (Far.below hS.2 u)
      clear B O G u hS
      have HNT := Lib.hid (Eq.refl nt)
      by_cases hnt : nt = true
      · have hnt' : nt = true := by simpa using hnt
        subst hnt'
        have s0 := (HFZ.out.blk HS4.out (by have := HGG.out; omega)).cell 0 _ rfl
        have s1 := (HFZ.out.blk HS4.out (by have := HGG.out; omega)).cell 1 _ rfl
        have HT1 := Lib.hid (rowT_null cols row k (by rw [HRV.out]; exact hkv) nm HF.out (1 + (o6 : Int)) (vt, vi, vs) true ⟨by omega, by omega⟩)
        have HT7 := Lib.hid (rowT_isNull cols row k (by rw [HRV.out]; exact hkv) nm HF.out (vt, vi, vs) true)
        have HT8 := Lib.hid (rowT_notNull cols row k (by rw [HRV.out]; exact hkv) nm HF.out (vt, vi, vs) true)
        clear hnt
        have t0 := HG.out.cell 0 _ rfl
        have t1 := HG.out.cell 1 _ rfl
        have t2 := HG.out.cell 2 _ rfl
        have t3 := HG.out.cell 3 _ rfl
        have t4 := HG.out.cell 4 _ rfl
        have t5 := HG.out.cell 5 _ rfl
        have t6 := HG.out.cell 6 _ rfl
        obtain ⟨ly0, hly0⟩ : ∃ x, (wd_1).heap.size = x := ⟨_, rfl⟩
        obtain ⟨y0, hy0⟩ : ∃ x, (wd_1).alloc (.cells (tcs nm (1 + (o6 : Int)) vt vi vs false true) 28) = x := ⟨_, rfl⟩
        have HLY := Lib.hid (show Later wd_1 y0 from hy0 ▸ Later.new _ _)
        have HLT := Lib.hid (show Has y0 (some ⟨ly0, 0, none⟩) (ft [⟨nm, (1 + (o6 : Int)), (vt, vi, vs), false, true⟩]) from (hy0 ▸ Blk.new wd_1 (tcs nm (1 + (o6 : Int)) vt vi vs false true) 28 ly0 hly0.symm : Blk y0 ly0 (tcs nm (1 + (o6 : Int)) vt vi vs false true) 28).has)
        go_wp2_with fail
        clear x1 y1 p1 q1 hwwc1 hwwd_1
        refine (predRow_any (some ⟨vb, voff, none⟩) vn vc vn cols (some ⟨ly0, 0, none⟩) 1 1 [⟨nm, (1 + (o6 : Int)), (vt, vi, vs), false, true⟩] (some ⟨q, 0, none⟩) vn rc (row.set k (0, 0, ⟨#[]⟩)) _ HCL.out.symm (by omega) (HV4.out.far (HFZ.out.later HLY.out)).has rfl (by omega) HLT.out (by rw [List.length_set, HRV.out]) (by omega) (HROW.out.later HLY.out).has).mono ?_
        rintro e z0 ⟨rfl, lz⟩
        rw [HT1.out]
        have LZ := Lib.hid (HLY.out.trans lz)
        have HFZ := Lib.hid (HFZ.out.later LZ.out)
        have HG := Lib.hid (HG.out.later LZ.out)
        have HB15 := Lib.hid (HB15.out.later LZ.out)
        have HB16 := Lib.hid (HB16.out.later LZ.out)
        have HROW := Lib.hid (HROW.out.later LZ.out)
        clear hy0 hly0 t0 t1 t2 t3 t4 t5 t6 s0 s1 lz HLT HLY
        have s0 := (HFZ.out.blk HS4.out (by have := HGG.out; omega)).cell 0 _ rfl
        have s1 := (HFZ.out.blk HS4.out (by have := HGG.out; omega)).cell 1 _ rfl
        have t0 := HB15.out.cell 0 _ rfl
        have t1 := HB15.out.cell 1 _ rfl
        have t2 := HB15.out.cell 2 _ rfl
        have t3 := HB15.out.cell 3 _ rfl
        have t4 := HB15.out.cell 4 _ rfl
        have t5 := HB15.out.cell 5 _ rfl
        have t6 := HB15.out.cell 6 _ rfl
        obtain ⟨ly1, hly1⟩ : ∃ x, (z0).heap.size = x := ⟨_, rfl⟩
        obtain ⟨y1, hy1⟩ : ∃ x, (z0).alloc (.cells (tcs nm 7 vt vi vs false true) 28) = x := ⟨_, rfl⟩
        have HLY := Lib.hid (show Later z0 y1 from hy1 ▸ Later.new _ _)
        have HLT := Lib.hid (show Has y1 (some ⟨ly1, 0, none⟩) (ft [⟨nm, 7, (vt, vi, vs), false, true⟩]) from (hy1 ▸ Blk.new z0 (tcs nm 7 vt vi vs false true) 28 ly1 hly1.symm : Blk y1 ly1 (tcs nm 7 vt vi vs false true) 28).has)
        go_wp2_with fail
        skip
        refine (predRow_any (some ⟨vb, voff, none⟩) vn vc vn cols (some ⟨ly1, 0, none⟩) 1 1 [⟨nm, 7, (vt, vi, vs), false, true⟩] (some ⟨q, 0, none⟩) vn rc (row.set k (0, 0, ⟨#[]⟩)) _ HCL.out.symm (by omega) (HV4.out.far (HFZ.out.later HLY.out)).has rfl (by omega) HLT.out (by rw [List.length_set, HRV.out]) (by omega) (HROW.out.later HLY.out).has).mono ?_
        rintro e z1 ⟨rfl, lz⟩
        rw [HT7.out]
        have LZ := Lib.hid (HLY.out.trans lz)
        have HFZ := Lib.hid (HFZ.out.later LZ.out)
        have HG := Lib.hid (HG.out.later LZ.out)
        have HB15 := Lib.hid (HB15.out.later LZ.out)
        have HB16 := Lib.hid (HB16.out.later LZ.out)
        have HROW := Lib.hid (HROW.out.later LZ.out)
        clear hy1 hly1 t0 t1 t2 t3 t4 t5 t6 s0 s1 lz HLT HLY
        have s0 := (HFZ.out.blk HS4.out (by have := HGG.out; omega)).cell 0 _ rfl
        have s1 := (HFZ.out.blk HS4.out (by have := HGG.out; omega)).cell 1 _ rfl
        have t0 := HB16.out.cell 0 _ rfl
        have t1 := HB16.out.cell 1 _ rfl
        have t2 := HB16.out.cell 2 _ rfl
        have t3 := HB16.out.cell 3 _ rfl
        have t4 := HB16.out.cell 4 _ rfl
        have t5 := HB16.out.cell 5 _ rfl
        have t6 := HB16.out.cell 6 _ rfl
        obtain ⟨ly2, hly2⟩ : ∃ x, (z1).heap.size = x := ⟨_, rfl⟩
        obtain ⟨y2, hy2⟩ : ∃ x, (z1).alloc (.cells (tcs nm 8 vt vi vs false true) 28) = x := ⟨_, rfl⟩
        have HLY := Lib.hid (show Later z1 y2 from hy2 ▸ Later.new _ _)
        have HLT := Lib.hid (show Has y2 (some ⟨ly2, 0, none⟩) (ft [⟨nm, 8, (vt, vi, vs), false, true⟩]) from (hy2 ▸ Blk.new z1 (tcs nm 8 vt vi vs false true) 28 ly2 hly2.symm : Blk y2 ly2 (tcs nm 8 vt vi vs false true) 28).has)
        go_wp2_with fail
        skip
        refine (predRow_any (some ⟨vb, voff, none⟩) vn vc vn cols (some ⟨ly2, 0, none⟩) 1 1 [⟨nm, 8, (vt, vi, vs), false, true⟩] (some ⟨q, 0, none⟩) vn rc (row.set k (0, 0, ⟨#[]⟩)) _ HCL.out.symm (by omega) (HV4.out.far (HFZ.out.later HLY.out)).has rfl (by omega) HLT.out (by rw [List.length_set, HRV.out]) (by omega) (HROW.out.later HLY.out).has).mono ?_
        rintro e z2 ⟨rfl, lz⟩
        rw [HT8.out]
        have LZ := Lib.hid (HLY.out.trans lz)
        have HFZ := Lib.hid (HFZ.out.later LZ.out)
        have HG := Lib.hid (HG.out.later LZ.out)
        have HB15 := Lib.hid (HB15.out.later LZ.out)
        have HB16 := Lib.hid (HB16.out.later LZ.out)
        have HROW := Lib.hid (HROW.out.later LZ.out)
        clear hy2 hly2 t0 t1 t2 t3 t4 t5 t6 s0 s1 lz HLT HLY
        have s0 := (HFZ.out.blk HS4.out (by have := HGG.out; omega)).cell 0 _ rfl
        have s1 := (HFZ.out.blk HS4.out (by have := HGG.out; omega)).cell 1 _ rfl
        have t0 := HG.out.cell 0 _ rfl
        have t1 := HG.out.cell 1 _ rfl
        have t2 := HG.out.cell 2 _ rfl
        have t3 := HG.out.cell 3 _ rfl
        have t4 := HG.out.cell 4 _ rfl
        have t5 := HG.out.cell 5 _ rfl
        have t6 := HG.out.cell 6 _ rfl
        obtain ⟨ly3, hly3⟩ : ∃ x, z2.heap.size = x := ⟨_, rfl⟩
        have HLY := Lib.hid ((Later.new z2 (.cells (tcs nm (1 + (o6 : Int)) vt vi vs false true) 28)).alloc (.cells #[] 52))
        have HLT := Lib.hid (((Blk.new z2 (tcs nm (1 + (o6 : Int)) vt vi vs false true) 28 ly3 hly3.symm).later (Later.new _ (.cells #[] 52))).has (cs := ft [⟨nm, (1 + (o6 : Int)), (vt, vi, vs), false, true⟩]))
        go_wp2_with fail
        refine (predRows_any (some ⟨vb, voff, none⟩) vn vc vn cols (some ⟨ly3, 0, none⟩) 1 1 [⟨nm, (1 + (o6 : Int)), (vt, vi, vs), false, true⟩] _ 0 0 [] _ HCL.out.symm (by omega) (HV4.out.far (HFZ.out.later HLY.out)).has rfl (by omega) HLT.out rfl (by omega) ⟨.inl rfl, fun s hs => by cases hs⟩ (fun s hs => by cases hs)).mono ?_
        rintro e z3 ⟨PA, pc, rfl, _, _, _, lz⟩
        have HFZ := Lib.hid ((HFZ.out.later HLY.out).later lz)
        clear hly3 t0 t1 t2 t3 t4 t5 t6 s0 s1 lz HLT HLY
        rw [show (passTo cols [⟨nm, (1 + (o6 : Int)), (vt, vi, vs), false, true⟩] (rowsC (colsOf [])) (rowsC (colsOf [])).length).length = 0 from Nat.le_zero.1 (Nat.le_trans (passTo_len _ _ _ _) (by first | exact Nat.le_refl _ | decide | simp [rowsC, colsOf, heightC]))]
        go_wp2_with fail
        go_ret
        exact ⟨rfl, HL1.out.trans ((HF4.out.trans HFZ.out).out HG0.out.symm HL2.out)⟩
      · have hnt' : nt = false := by simpa using hnt
        subst hnt'
        have s0 := (HFZ.out.blk HS4.out (by have := HGG.out; omega)).cell 0 _ rfl
        have s1 := (HFZ.out.blk HS4.out (by have := HGG.out; omega)).cell 1 _ rfl
        have HT1 := Lib.hid (rowT_null cols row k (by rw [HRV.out]; exact hkv) nm HF.out (1 + (o6 : Int)) (vt, vi, vs) false ⟨by omega, by omega⟩)
        have HT7 := Lib.hid (rowT_isNull cols row k (by rw [HRV.out]; exact hkv) nm HF.out (vt, vi, vs) false)
        have HT8 := Lib.hid (rowT_notNull cols row k (by rw [HRV.out]; exact hkv) nm HF.out (vt, vi, vs) false)
        clear hnt
        have t0 := HG.out.cell 0 _ rfl
        have t1 := HG.out.cell 1 _ rfl
        have t2 := HG.out.cell 2 _ rfl
        have t3 := HG.out.cell 3 _ rfl
        have t4 := HG.out.cell 4 _ rfl
        have t5 := HG.out.cell 5 _ rfl
        have t6 := HG.out.cell 6 _ rfl
        obtain ⟨ly0, hly0⟩ : ∃ x, (wd_1).heap.size = x := ⟨_, rfl⟩
        obtain ⟨y0, hy0⟩ : ∃ x, (wd_1).alloc (.cells (tcs nm (1 + (o6 : Int)) vt vi vs false false) 28) = x := ⟨_, rfl⟩
        have HLY := Lib.hid (show Later wd_1 y0 from hy0 ▸ Later.new _ _)
        have HLT := Lib.hid (show Has y0 (some ⟨ly0, 0, none⟩) (ft [⟨nm, (1 + (o6 : Int)), (vt, vi, vs), false, false⟩]) from (hy0 ▸ Blk.new wd_1 (tcs nm (1 + (o6 : Int)) vt vi vs false false) 28 ly0 hly0.symm : Blk y0 ly0 (tcs nm (1 + (o6 : Int)) vt vi vs false false) 28).has)
        go_wp2_with fail
        clear x1 y1 p1 q1 hwwc1 hwwd_1
        refine (predRow_any (some ⟨vb, voff, none⟩) vn vc vn cols (some ⟨ly0, 0, none⟩) 1 1 [⟨nm, (1 + (o6 : Int)), (vt, vi, vs), false, false⟩] (some ⟨q, 0, none⟩) vn rc (row.set k (0, 0, ⟨#[]⟩)) _ HCL.out.symm (by omega) (HV4.out.far (HFZ.out.later HLY.out)).has rfl (by omega) HLT.out (by rw [List.length_set, HRV.out]) (by omega) (HROW.out.later HLY.out).has).mono ?_
        rintro e z0 ⟨rfl, lz⟩
        rw [HT1.out]
        have LZ := Lib.hid (HLY.out.trans lz)
        have HFZ := Lib.hid (HFZ.out.later LZ.out)
        have HG := Lib.hid (HG.out.later LZ.out)
        have HB15 := Lib.hid (HB15.out.later LZ.out)
        have HB16 := Lib.hid (HB16.out.later LZ.out)
        have HROW := Lib.hid (HROW.out.later LZ.out)
        clear hy0 hly0 t0 t1 t2 t3 t4 t5 t6 s0 s1 lz HLT HLY
        have s0 := (HFZ.out.blk HS4.out (by have := HGG.out; omega)).cell 0 _ rfl
        have s1 := (HFZ.out.blk HS4.out (by have := HGG.out; omega)).cell 1 _ rfl
        have t0 := HB15.out.cell 0 _ rfl
        have t1 := HB15.out.cell 1 _ rfl
        have t2 := HB15.out.cell 2 _ rfl
        have t3 := HB15.out.cell 3 _ rfl
        have t4 := HB15.out.cell 4 _ rfl
        have t5 := HB15.out.cell 5 _ rfl
        have t6 := HB15.out.cell 6 _ rfl
        obtain ⟨ly1, hly1⟩ : ∃ x, (z0).heap.size = x := ⟨_, rfl⟩
        obtain ⟨y1, hy1⟩ : ∃ x, (z0).alloc (.cells (tcs nm 7 vt vi vs false false) 28) = x := ⟨_, rfl⟩
        have HLY := Lib.hid (show Later z0 y1 from hy1 ▸ Later.new _ _)
        have HLT := Lib.hid (show Has y1 (some ⟨ly1, 0, none⟩) (ft [⟨nm, 7, (vt, vi, vs), false, false⟩]) from (hy1 ▸ Blk.new z0 (tcs nm 7 vt vi vs false false) 28 ly1 hly1.symm : Blk y1 ly1 (tcs nm 7 vt vi vs false false) 28).has)
        go_wp2_with fail
        skip
        refine (predRow_any (some ⟨vb, voff, none⟩) vn vc vn cols (some ⟨ly1, 0, none⟩) 1 1 [⟨nm, 7, (vt, vi, vs), false, false⟩] (some ⟨q, 0, none⟩) vn rc (row.set k (0, 0, ⟨#[]⟩)) _ HCL.out.symm (by omega) (HV4.out.far (HFZ.out.later HLY.out)).has rfl (by omega) HLT.out (by rw [List.length_set, HRV.out]) (by omega) (HROW.out.later HLY.out).has).mono ?_
        rintro e z1 ⟨rfl, lz⟩
        rw [HT7.out]
        have LZ := Lib.hid (HLY.out.trans lz)
        have HFZ := Lib.hid (HFZ.out.later LZ.out)
        have HG := Lib.hid (HG.out.later LZ.out)
        have HB15 := Lib.hid (HB15.out.later LZ.out)
        have HB16 := Lib.hid (HB16.out.later LZ.out)
        have HROW := Lib.hid (HROW.out.later LZ.out)
        clear hy1 hly1 t0 t1 t2 t3 t4 t5 t6 s0 s1 lz HLT HLY
        have s0 := (HFZ.out.blk HS4.out (by have := HGG.out; omega)).cell 0 _ rfl
        have s1 := (HFZ.out.blk HS4.out (by have := HGG.out; omega)).cell 1 _ rfl
        have t0 := HB16.out.cell 0 _ rfl
        have t1 := HB16.out.cell 1 _ rfl
        have t2 := HB16.out.cell 2 _ rfl
        have t3 := HB16.out.cell 3 _ rfl
        have t4 := HB16.out.cell 4 _ rfl
        have t5 := HB16.out.cell 5 _ rfl
        have t6 := HB16.out.cell 6 _ rfl
        obtain ⟨ly2, hly2⟩ : ∃ x, (z1).heap.size = x := ⟨_, rfl⟩
        obtain ⟨y2, hy2⟩ : ∃ x, (z1).alloc (.cells (tcs nm 8 vt vi vs false false) 28) = x := ⟨_, rfl⟩
        have HLY := Lib.hid (show Later z1 y2 from hy2 ▸ Later.new _ _)
        have HLT := Lib.hid (show Has y2 (some ⟨ly2, 0, none⟩) (ft [⟨nm, 8, (vt, vi, vs), false, false⟩]) from (hy2 ▸ Blk.new z1 (tcs nm 8 vt vi vs false false) 28 ly2 hly2.symm : Blk y2 ly2 (tcs nm 8 vt vi vs false false) 28).has)
        go_wp2_with fail
        skip
        refine (predRow_any (some ⟨vb, voff, none⟩) vn vc vn cols (some ⟨ly2, 0, none⟩) 1 1 [⟨nm, 8, (vt, vi, vs), false, false⟩] (some ⟨q, 0, none⟩) vn rc (row.set k (0, 0, ⟨#[]⟩)) _ HCL.out.symm (by omega) (HV4.out.far (HFZ.out.later HLY.out)).has rfl (by omega) HLT.out (by rw [List.length_set, HRV.out]) (by omega) (HROW.out.later HLY.out).has).mono ?_
        rintro e z2 ⟨rfl, lz⟩
        rw [HT8.out]
        have LZ := Lib.hid (HLY.out.trans lz)
        have HFZ := Lib.hid (HFZ.out.later LZ.out)
        have HG := Lib.hid (HG.out.later LZ.out)
        have HB15 := Lib.hid (HB15.out.later LZ.out)
        have HB16 := Lib.hid (HB16.out.later LZ.out)
        have HROW := Lib.hid (HROW.out.later LZ.out)
        clear hy2 hly2 t0 t1 t2 t3 t4 t5 t6 s0 s1 lz HLT HLY
        have s0 := (HFZ.out.blk HS4.out (by have := HGG.out; omega)).cell 0 _ rfl
        have s1 := (HFZ.out.blk HS4.out (by have := HGG.out; omega)).cell 1 _ rfl
        have t0 := HG.out.cell 0 _ rfl
        have t1 := HG.out.cell 1 _ rfl
        have t2 := HG.out.cell 2 _ rfl
        have t3 := HG.out.cell 3 _ rfl
        have t4 := HG.out.cell 4 _ rfl
        have t5 := HG.out.cell 5 _ rfl
        have t6 := HG.out.cell 6 _ rfl
        obtain ⟨ly3, hly3⟩ : ∃ x, z2.heap.size = x := ⟨_, rfl⟩
        have HLY := Lib.hid ((Later.new z2 (.cells (tcs nm (1 + (o6 : Int)) vt vi vs false false) 28)).alloc (.cells #[] 52))
        have HLT := Lib.hid (((Blk.new z2 (tcs nm (1 + (o6 : Int)) vt vi vs false false) 28 ly3 hly3.symm).later (Later.new _ (.cells #[] 52))).has (cs := ft [⟨nm, (1 + (o6 : Int)), (vt, vi, vs), false, false⟩]))
        go_wp2_with fail
        refine (predRows_any (some ⟨vb, voff, none⟩) vn vc vn cols (some ⟨ly3, 0, none⟩) 1 1 [⟨nm, (1 + (o6 : Int)), (vt, vi, vs), false, false⟩] _ 0 0 [] _ HCL.out.symm (by omega) (HV4.out.far (HFZ.out.later HLY.out)).has rfl (by omega) HLT.out rfl (by omega) ⟨.inl rfl, fun s hs => by cases hs⟩ (fun s hs => by cases hs)).mono ?_
        rintro e z3 ⟨PA, pc, rfl, _, _, _, lz⟩
        have HFZ := Lib.hid ((HFZ.out.later HLY.out).later lz)
        clear hly3 t0 t1 t2 t3 t4 t5 t6 s0 s1 lz HLT HLY
        rw [show (passTo cols [⟨nm, (1 + (o6 : Int)), (vt, vi, vs), false, false⟩] (rowsC (colsOf [])) (rowsC (colsOf [])).length).length = 0 from Nat.le_zero.1 (Nat.le_trans (passTo_len _ _ _ _) (by first | exact Nat.le_refl _ | decide | simp [rowsC, colsOf, heightC]))]
        go_wp2_with fail
        go_ret
        exact ⟨rfl, HL1.out.trans ((HF4.out.trans HFZ.out).out HG0.out.symm HL2.out)⟩
    · skip
      refine stepZ (o := { dst := some 16, op := _, type := _, pos := _, after := _, guard := _ }) rfl (fun K hK => ?_)
      go_simp
      obtain ⟨b16, hb⟩ : ∃ x, (we).heap.size = x := ⟨_, rfl⟩
      obtain ⟨wl16, hwl⟩ : ∃ x, (we).alloc (.cells #[.string ⟨#[]⟩, .int .i64 0, .int .i64 0, .int .i64 0, .string ⟨#[]⟩, .bool false, .bool false] 28) = x := ⟨_, rfl⟩
      have ll : Later we wl16 := hwl ▸ Later.new _ _
      have n16 : gt < b16 ∧ q < b16 ∧ w4.heap.size ≤ b16 := by rw [← hb]; exact ⟨Blk.lt hS.1, HROW.out.lt HNE.out, Far.size hS.2⟩
      
      have HB16 := Lib.hid (hwl ▸ Blk.new we #[.string ⟨#[]⟩, .int .i64 0, .int .i64 0, .int .i64 0, .string ⟨#[]⟩, .bool false, .bool false] 28 b16 hb.symm)
      
      try rw [hb]
      rw [hwl]
      have HROW := Lib.hid (HROW.out.later ll)
      have hS : (fun W : World => Blk W gt (tcs nm (1 + (o6 : Int)) vt vi vs false nt) 28 ∧ Far g w4 W) wl16 := ⟨Blk.later hS.1 ll, Far.later hS.2 ll⟩
      refine hK _ _ hS ?_
      clear hK hwl ll hb
      (try simp only [Act.put, List.setIfInBounds_toArray, List.set_cons_zero, List.set_cons_succ])
      refine wpAnyZ_all (rs := [2]) (by kernel_rfl) (by simp) (fun i hi => ?_)
      simp only [List.mem_cons, List.not_mem_nil, or_false] at hi
      subst hi
      refine stepZ (o := { dst := some 15, op := _, type := _, pos := _, after := _, guard := _ }) rfl (fun K hK => ?_)
      go_simp
      obtain ⟨b15, hb⟩ : ∃ x, (wl16).heap.size = x := ⟨_, rfl⟩
      obtain ⟨wl15, hwl⟩ : ∃ x, (wl16).alloc (.cells #[.string ⟨#[]⟩, .int .i64 0, .int .i64 0, .int .i64 0, .string ⟨#[]⟩, .bool false, .bool false] 28) = x := ⟨_, rfl⟩
      have ll : Later wl16 wl15 := hwl ▸ Later.new _ _
      have n15 : gt < b15 ∧ q < b15 ∧ w4.heap.size ≤ b15 := by rw [← hb]; exact ⟨Blk.lt hS.1, HROW.out.lt HNE.out, Far.size hS.2⟩
      have n12 : b16 < b15 := by rw [← hb]; exact HB16.out.lt
      have HB15 := Lib.hid (hwl ▸ Blk.new wl16 #[.string ⟨#[]⟩, .int .i64 0, .int .i64 0, .int .i64 0, .string ⟨#[]⟩, .bool false, .bool false] 28 b15 hb.symm)
      have HB16 := Lib.hid (HB16.out.later ll)
      try rw [hb]
      rw [hwl]
      have HROW := Lib.hid (HROW.out.later ll)
      have hS : (fun W : World => Blk W gt (tcs nm (1 + (o6 : Int)) vt vi vs false nt) 28 ∧ Far g w4 W) wl15 := ⟨Blk.later hS.1 ll, Far.later hS.2 ll⟩
      refine hK _ _ hS ?_
      clear hK hwl ll hb
      (try simp only [Act.put, List.setIfInBounds_toArray, List.set_cons_zero, List.set_cons_succ])
      refine wpAnyZ_all (rs := [4]) (by kernel_rfl) (by simp) (fun i hi => ?_)
      simp only [List.mem_cons, List.not_mem_nil, or_false] at hi
      subst hi
      have B := HB15.out
      have O := HB16.out
      have G := hS.1
      have u := Below.refl w4.heap.size wl15
      have x0 := B.cell 0 _ rfl
      have y0 := B.frozen 0
      have B := B.set_ 0 (.string nm)
      have O := Blk.off O (p := ⟨b15, 0, none⟩) (by show b16 ≠ b15; omega) (.string nm)
      have G := Blk.off G (p := ⟨b15, 0, none⟩) (by show gt ≠ b15; omega) (.string nm)
      have u : Below w4.heap.size wl15 ((wl15).setCell ⟨b15, 0, none⟩ (.string nm)) := u.setCell (p := ⟨b15, 0, none⟩) (by show w4.heap.size ≤ b15; omega) _
      have HROW := Lib.hid (HROW.out.off (p := ⟨b15, 0, none⟩) (by show q ≠ b15; omega) (.string nm))
      obtain ⟨wa0, hwwa0⟩ : ∃ x, (wl15).setCell ⟨b15, 0, none⟩ (.string nm) = x := ⟨_, rfl⟩
      rw [hwwa0] at B O G u HROW
      have x1 := B.cell 1 _ rfl
      have y1 := B.frozen 1
      have B := B.set_ 1 (.int .i64 (1 + (o6 : Int)))
      have O := Blk.off O (p := ⟨b15, 1, none⟩) (by show b16 ≠ b15; omega) (.int .i64 (1 + (o6 : Int)))
      have G := Blk.off G (p := ⟨b15, 1, none⟩) (by show gt ≠ b15; omega) (.int .i64 (1 + (o6 : Int)))
      have u : Below w4.heap.size wl15 ((wa0).setCell ⟨b15, 1, none⟩ (.int .i64 (1 + (o6 : Int)))) := u.setCell (p := ⟨b15, 1, none⟩) (by show w4.heap.size ≤ b15; omega) _
      have HROW := Lib.hid (HROW.out.off (p := ⟨b15, 1, none⟩) (by show q ≠ b15; omega) (.int .i64 (1 + (o6 : Int))))
      obtain ⟨wa1, hwwa1⟩ : ∃ x, (wa0).setCell ⟨b15, 1, none⟩ (.int .i64 (1 + (o6 : Int))) = x := ⟨_, rfl⟩
      rw [hwwa1] at B O G u HROW
      have x2 := B.cell 2 _ rfl
      have y2 := B.frozen 2
      have B := B.set_ 2 (.int .i64 vt)
      have O := Blk.off O (p := ⟨b15, 2, none⟩) (by show b16 ≠ b15; omega) (.int .i64 vt)
      have G := Blk.off G (p := ⟨b15, 2, none⟩) (by show gt ≠ b15; omega) (.int .i64 vt)
      have u : Below w4.heap.size wl15 ((wa1).setCell ⟨b15, 2, none⟩ (.int .i64 vt)) := u.setCell (p := ⟨b15, 2, none⟩) (by show w4.heap.size ≤ b15; omega) _
      have HROW := Lib.hid (HROW.out.off (p := ⟨b15, 2, none⟩) (by show q ≠ b15; omega) (.int .i64 vt))
      obtain ⟨wa2, hwwa2⟩ : ∃ x, (wa1).setCell ⟨b15, 2, none⟩ (.int .i64 vt) = x := ⟨_, rfl⟩
      rw [hwwa2] at B O G u HROW
      have x3 := B.cell 3 _ rfl
      have y3 := B.frozen 3
      have B := B.set_ 3 (.int .i64 vi)
      have O := Blk.off O (p := ⟨b15, 3, none⟩) (by show b16 ≠ b15; omega) (.int .i64 vi)
      have G := Blk.off G (p := ⟨b15, 3, none⟩) (by show gt ≠ b15; omega) (.int .i64 vi)
      have u : Below w4.heap.size wl15 ((wa2).setCell ⟨b15, 3, none⟩ (.int .i64 vi)) := u.setCell (p := ⟨b15, 3, none⟩) (by show w4.heap.size ≤ b15; omega) _
      have HROW := Lib.hid (HROW.out.off (p := ⟨b15, 3, none⟩) (by show q ≠ b15; omega) (.int .i64 vi))
      obtain ⟨wa3, hwwa3⟩ : ∃ x, (wa2).setCell ⟨b15, 3, none⟩ (.int .i64 vi) = x := ⟨_, rfl⟩
      rw [hwwa3] at B O G u HROW
      have x4 := B.cell 4 _ rfl
      have y4 := B.frozen 4
      have B := B.set_ 4 (.string vs)
      have O := Blk.off O (p := ⟨b15, 4, none⟩) (by show b16 ≠ b15; omega) (.string vs)
      have G := Blk.off G (p := ⟨b15, 4, none⟩) (by show gt ≠ b15; omega) (.string vs)
      have u : Below w4.heap.size wl15 ((wa3).setCell ⟨b15, 4, none⟩ (.string vs)) := u.setCell (p := ⟨b15, 4, none⟩) (by show w4.heap.size ≤ b15; omega) _
      have HROW := Lib.hid (HROW.out.off (p := ⟨b15, 4, none⟩) (by show q ≠ b15; omega) (.string vs))
      obtain ⟨wa4, hwwa4⟩ : ∃ x, (wa3).setCell ⟨b15, 4, none⟩ (.string vs) = x := ⟨_, rfl⟩
      rw [hwwa4] at B O G u HROW
      have x5 := B.cell 5 _ rfl
      have y5 := B.frozen 5
      have B := B.set_ 5 (.bool false)
      have O := Blk.off O (p := ⟨b15, 5, none⟩) (by show b16 ≠ b15; omega) (.bool false)
      have G := Blk.off G (p := ⟨b15, 5, none⟩) (by show gt ≠ b15; omega) (.bool false)
      have u : Below w4.heap.size wl15 ((wa4).setCell ⟨b15, 5, none⟩ (.bool false)) := u.setCell (p := ⟨b15, 5, none⟩) (by show w4.heap.size ≤ b15; omega) _
      have HROW := Lib.hid (HROW.out.off (p := ⟨b15, 5, none⟩) (by show q ≠ b15; omega) (.bool false))
      obtain ⟨wa5, hwwa5⟩ : ∃ x, (wa4).setCell ⟨b15, 5, none⟩ (.bool false) = x := ⟨_, rfl⟩
      rw [hwwa5] at B O G u HROW
      have x6 := B.cell 6 _ rfl
      have y6 := B.frozen 6
      have B := B.set_ 6 (.bool nt)
      have O := Blk.off O (p := ⟨b15, 6, none⟩) (by show b16 ≠ b15; omega) (.bool nt)
      have G := Blk.off G (p := ⟨b15, 6, none⟩) (by show gt ≠ b15; omega) (.bool nt)
      have u : Below w4.heap.size wl15 ((wa5).setCell ⟨b15, 6, none⟩ (.bool nt)) := u.setCell (p := ⟨b15, 6, none⟩) (by show w4.heap.size ≤ b15; omega) _
      have HROW := Lib.hid (HROW.out.off (p := ⟨b15, 6, none⟩) (by show q ≠ b15; omega) (.bool nt))
      obtain ⟨wa6, hwwa6⟩ : ∃ x, (wa5).setCell ⟨b15, 6, none⟩ (.bool nt) = x := ⟨_, rfl⟩
      rw [hwwa6] at B O G u HROW
      refine stepZ (o := { dst := none, op := _, type := _, pos := _, after := _, guard := _ }) rfl (fun K hK => ?_)
      go_simp
      have hS : (fun W : World => Blk W gt (tcs nm (1 + (o6 : Int)) vt vi vs false nt) 28 ∧ Far g w4 W) wa6 := ⟨G, Far.below hS.2 u⟩
      refine hK _ _ hS ?_
      have HB15 := Lib.hid (show Blk wa6 b15 (tcs nm (1 + (o6 : Int)) vt vi vs false nt) 28 from B)
      have HB16 := Lib.hid O
      clear hK B O G u x0 y0 hwwa0 x1 y1 hwwa1 x2 y2 hwwa2 x3 y3 hwwa3 x4 y4 hwwa4 x5 y5 hwwa5 x6 y6 hwwa6
      (try simp only [Act.put, List.setIfInBounds_toArray, List.set_cons_zero, List.set_cons_succ])
      refine wpAnyZ_all (rs := [5]) (by kernel_rfl) (by simp) (fun i hi => ?_)
      simp only [List.mem_cons, List.not_mem_nil, or_false] at hi
      subst hi
      have B := HB16.out
      have O := HB15.out
      have G := hS.1
      have u := Below.refl w4.heap.size wa6
      have x0 := B.cell 0 _ rfl
      have y0 := B.frozen 0
      have B := B.set_ 0 (.string nm)
      have O := Blk.off O (p := ⟨b16, 0, none⟩) (by show b15 ≠ b16; omega) (.string nm)
      have G := Blk.off G (p := ⟨b16, 0, none⟩) (by show gt ≠ b16; omega) (.string nm)
      have u : Below w4.heap.size wa6 ((wa6).setCell ⟨b16, 0, none⟩ (.string nm)) := u.setCell (p := ⟨b16, 0, none⟩) (by show w4.heap.size ≤ b16; omega) _
      have HROW := Lib.hid (HROW.out.off (p := ⟨b16, 0, none⟩) (by show q ≠ b16; omega) (.string nm))
      obtain ⟨wb0, hwwb0⟩ : ∃ x, (wa6).setCell ⟨b16, 0, none⟩ (.string nm) = x := ⟨_, rfl⟩
      rw [hwwb0] at B O G u HROW
      have x1 := B.cell 1 _ rfl
      have y1 := B.frozen 1
      have B := B.set_ 1 (.int .i64 (1 + (o6 : Int)))
      have O := Blk.off O (p := ⟨b16, 1, none⟩) (by show b15 ≠ b16; omega) (.int .i64 (1 + (o6 : Int)))
      have G := Blk.off G (p := ⟨b16, 1, none⟩) (by show gt ≠ b16; omega) (.int .i64 (1 + (o6 : Int)))
      have u : Below w4.heap.size wa6 ((wb0).setCell ⟨b16, 1, none⟩ (.int .i64 (1 + (o6 : Int)))) := u.setCell (p := ⟨b16, 1, none⟩) (by show w4.heap.size ≤ b16; omega) _
      have HROW := Lib.hid (HROW.out.off (p := ⟨b16, 1, none⟩) (by show q ≠ b16; omega) (.int .i64 (1 + (o6 : Int))))
      obtain ⟨wb1, hwwb1⟩ : ∃ x, (wb0).setCell ⟨b16, 1, none⟩ (.int .i64 (1 + (o6 : Int))) = x := ⟨_, rfl⟩
      rw [hwwb1] at B O G u HROW
      have x2 := B.cell 2 _ rfl
      have y2 := B.frozen 2
      have B := B.set_ 2 (.int .i64 vt)
      have O := Blk.off O (p := ⟨b16, 2, none⟩) (by show b15 ≠ b16; omega) (.int .i64 vt)
      have G := Blk.off G (p := ⟨b16, 2, none⟩) (by show gt ≠ b16; omega) (.int .i64 vt)
      have u : Below w4.heap.size wa6 ((wb1).setCell ⟨b16, 2, none⟩ (.int .i64 vt)) := u.setCell (p := ⟨b16, 2, none⟩) (by show w4.heap.size ≤ b16; omega) _
      have HROW := Lib.hid (HROW.out.off (p := ⟨b16, 2, none⟩) (by show q ≠ b16; omega) (.int .i64 vt))
      obtain ⟨wb2, hwwb2⟩ : ∃ x, (wb1).setCell ⟨b16, 2, none⟩ (.int .i64 vt) = x := ⟨_, rfl⟩
      rw [hwwb2] at B O G u HROW
      have x3 := B.cell 3 _ rfl
      have y3 := B.frozen 3
      have B := B.set_ 3 (.int .i64 vi)
      have O := Blk.off O (p := ⟨b16, 3, none⟩) (by show b15 ≠ b16; omega) (.int .i64 vi)
      have G := Blk.off G (p := ⟨b16, 3, none⟩) (by show gt ≠ b16; omega) (.int .i64 vi)
      have u : Below w4.heap.size wa6 ((wb2).setCell ⟨b16, 3, none⟩ (.int .i64 vi)) := u.setCell (p := ⟨b16, 3, none⟩) (by show w4.heap.size ≤ b16; omega) _
      have HROW := Lib.hid (HROW.out.off (p := ⟨b16, 3, none⟩) (by show q ≠ b16; omega) (.int .i64 vi))
      obtain ⟨wb3, hwwb3⟩ : ∃ x, (wb2).setCell ⟨b16, 3, none⟩ (.int .i64 vi) = x := ⟨_, rfl⟩
      rw [hwwb3] at B O G u HROW
      have x4 := B.cell 4 _ rfl
      have y4 := B.frozen 4
      have B := B.set_ 4 (.string vs)
      have O := Blk.off O (p := ⟨b16, 4, none⟩) (by show b15 ≠ b16; omega) (.string vs)
      have G := Blk.off G (p := ⟨b16, 4, none⟩) (by show gt ≠ b16; omega) (.string vs)
      have u : Below w4.heap.size wa6 ((wb3).setCell ⟨b16, 4, none⟩ (.string vs)) := u.setCell (p := ⟨b16, 4, none⟩) (by show w4.heap.size ≤ b16; omega) _
      have HROW := Lib.hid (HROW.out.off (p := ⟨b16, 4, none⟩) (by show q ≠ b16; omega) (.string vs))
      obtain ⟨wb4, hwwb4⟩ : ∃ x, (wb3).setCell ⟨b16, 4, none⟩ (.string vs) = x := ⟨_, rfl⟩
      rw [hwwb4] at B O G u HROW
      have x5 := B.cell 5 _ rfl
      have y5 := B.frozen 5
      have B := B.set_ 5 (.bool false)
      have O := Blk.off O (p := ⟨b16, 5, none⟩) (by show b15 ≠ b16; omega) (.bool false)
      have G := Blk.off G (p := ⟨b16, 5, none⟩) (by show gt ≠ b16; omega) (.bool false)
      have u : Below w4.heap.size wa6 ((wb4).setCell ⟨b16, 5, none⟩ (.bool false)) := u.setCell (p := ⟨b16, 5, none⟩) (by show w4.heap.size ≤ b16; omega) _
      have HROW := Lib.hid (HROW.out.off (p := ⟨b16, 5, none⟩) (by show q ≠ b16; omega) (.bool false))
      obtain ⟨wb5, hwwb5⟩ : ∃ x, (wb4).setCell ⟨b16, 5, none⟩ (.bool false) = x := ⟨_, rfl⟩
      rw [hwwb5] at B O G u HROW
      have x6 := B.cell 6 _ rfl
      have y6 := B.frozen 6
      have B := B.set_ 6 (.bool nt)
      have O := Blk.off O (p := ⟨b16, 6, none⟩) (by show b15 ≠ b16; omega) (.bool nt)
      have G := Blk.off G (p := ⟨b16, 6, none⟩) (by show gt ≠ b16; omega) (.bool nt)
      have u : Below w4.heap.size wa6 ((wb5).setCell ⟨b16, 6, none⟩ (.bool nt)) := u.setCell (p := ⟨b16, 6, none⟩) (by show w4.heap.size ≤ b16; omega) _
      have HROW := Lib.hid (HROW.out.off (p := ⟨b16, 6, none⟩) (by show q ≠ b16; omega) (.bool nt))
      obtain ⟨wb6, hwwb6⟩ : ∃ x, (wb5).setCell ⟨b16, 6, none⟩ (.bool nt) = x := ⟨_, rfl⟩
      rw [hwwb6] at B O G u HROW
      refine stepZl (o := { dst := none, op := _, type := _, pos := _, after := _, guard := _ }) rfl (fun K hK => ?_)
      go_simp
      refine hK _ _ ?_
      have hS : (fun W : World => Blk W gt (tcs nm (1 + (o6 : Int)) vt vi vs false nt) 28 ∧ Far g w4 W) wb6 := ⟨G, Far.below hS.2 u⟩
      have HB16 := Lib.hid (show Blk wb6 b16 (tcs nm (1 + (o6 : Int)) vt vi vs false nt) 28 from B)
      have HB15 := Lib.hid O
      clear hK B O G u x0 y0 hwwb0 x1 y1 hwwb1 x2 y2 hwwb2 x3 y3 hwwb3 x4 y4 hwwb4 x5 y5 hwwb5 x6 y6 hwwb6
      (try simp only [Act.put, List.setIfInBounds_toArray, List.set_cons_zero, List.set_cons_succ])
      refine wpAnyZ_done (by kernel_rfl) ?_ _
      have B := HB15.out
      have O := HB16.out
      have G := hS.1
      have u := Below.refl w4.heap.size wb6
      have x1 := B.cell 1 _ rfl
      have y1 := B.frozen 1
      have B := B.set_ 1 (.int .i64 7)
      have O := Blk.off O (p := ⟨b15, 1, none⟩) (by show b16 ≠ b15; omega) (.int .i64 7)
      have G := Blk.off G (p := ⟨b15, 1, none⟩) (by show gt ≠ b15; omega) (.int .i64 7)
      have u : Below w4.heap.size wb6 ((wb6).setCell ⟨b15, 1, none⟩ (.int .i64 7)) := u.setCell (p := ⟨b15, 1, none⟩) (by show w4.heap.size ≤ b15; omega) _
      have HROW := Lib.hid (HROW.out.off (p := ⟨b15, 1, none⟩) (by show q ≠ b15; omega) (.int .i64 7))
      obtain ⟨wc1, hwwc1⟩ : ∃ x, (wb6).setCell ⟨b15, 1, none⟩ (.int .i64 7) = x := ⟨_, rfl⟩
      rw [hwwc1] at B O G u HROW
      have HB15 := Lib.hid (show Blk wc1 b15 (tcs nm 7 vt vi vs false nt) 28 from B)
      have HB16 := Lib.hid O
      have hS : (fun W : World => Blk W gt (tcs nm (1 + (o6 : Int)) vt vi vs false nt) 28 ∧ Far g w4 W) wc1 := ⟨G, Far.below hS.2 u⟩
      have p1 := x1
      have q1 := y1
      clear B O G u x1 y1
      have B := HB16.out
      have O := HB15.out
      have G := hS.1
      have u := Below.refl w4.heap.size wc1
      have x1 := B.cell 1 _ rfl
      have y1 := B.frozen 1
      have B := B.set_ 1 (.int .i64 8)
      have O := Blk.off O (p := ⟨b16, 1, none⟩) (by show b15 ≠ b16; omega) (.int .i64 8)
      have G := Blk.off G (p := ⟨b16, 1, none⟩) (by show gt ≠ b16; omega) (.int .i64 8)
      have u : Below w4.heap.size wc1 ((wc1).setCell ⟨b16, 1, none⟩ (.int .i64 8)) := u.setCell (p := ⟨b16, 1, none⟩) (by show w4.heap.size ≤ b16; omega) _
      have HROW := Lib.hid (HROW.out.off (p := ⟨b16, 1, none⟩) (by show q ≠ b16; omega) (.int .i64 8))
      obtain ⟨wd_1, hwwd_1⟩ : ∃ x, (wc1).setCell ⟨b16, 1, none⟩ (.int .i64 8) = x := ⟨_, rfl⟩
      rw [hwwd_1] at B O G u HROW
      have HB16 := Lib.hid (show Blk wd_1 b16 (tcs nm 8 vt vi vs false nt) 28 from B)
      have HB15 := Lib.hid O
      have HG := Lib.hid G
      have HFZ := Lib.hid (Far.below hS.2 u)
      clear B O G u hS
      have HNT := Lib.hid (Eq.refl nt)
      by_cases hnt : nt = true
      · have hnt' : nt = true := by simpa using hnt
        subst hnt'
        have s0 := (HFZ.out.blk HS4.out (by have := HGG.out; omega)).cell 0 _ rfl
        have s1 := (HFZ.out.blk HS4.out (by have := HGG.out; omega)).cell 1 _ rfl
        have HT1 := Lib.hid (rowT_null cols row k (by rw [HRV.out]; exact hkv) nm HF.out (1 + (o6 : Int)) (vt, vi, vs) true ⟨by omega, by omega⟩)
        have HT7 := Lib.hid (rowT_isNull cols row k (by rw [HRV.out]; exact hkv) nm HF.out (vt, vi, vs) true)
        have HT8 := Lib.hid (rowT_notNull cols row k (by rw [HRV.out]; exact hkv) nm HF.out (vt, vi, vs) true)
        clear hnt
        have t0 := HG.out.cell 0 _ rfl
        have t1 := HG.out.cell 1 _ rfl
        have t2 := HG.out.cell 2 _ rfl
        have t3 := HG.out.cell 3 _ rfl
        have t4 := HG.out.cell 4 _ rfl
        have t5 := HG.out.cell 5 _ rfl
        have t6 := HG.out.cell 6 _ rfl
        obtain ⟨ly0, hly0⟩ : ∃ x, (wd_1).heap.size = x := ⟨_, rfl⟩
        obtain ⟨y0, hy0⟩ : ∃ x, (wd_1).alloc (.cells (tcs nm (1 + (o6 : Int)) vt vi vs false true) 28) = x := ⟨_, rfl⟩
        have HLY := Lib.hid (show Later wd_1 y0 from hy0 ▸ Later.new _ _)
        have HLT := Lib.hid (show Has y0 (some ⟨ly0, 0, none⟩) (ft [⟨nm, (1 + (o6 : Int)), (vt, vi, vs), false, true⟩]) from (hy0 ▸ Blk.new wd_1 (tcs nm (1 + (o6 : Int)) vt vi vs false true) 28 ly0 hly0.symm : Blk y0 ly0 (tcs nm (1 + (o6 : Int)) vt vi vs false true) 28).has)
        go_wp2_with fail
        clear x1 y1 p1 q1 hwwc1 hwwd_1
        refine (predRow_any (some ⟨vb, voff, none⟩) vn vc vn cols (some ⟨ly0, 0, none⟩) 1 1 [⟨nm, (1 + (o6 : Int)), (vt, vi, vs), false, true⟩] (some ⟨q, 0, none⟩) vn rc (row.set k (0, 0, ⟨#[]⟩)) _ HCL.out.symm (by omega) (HV4.out.far (HFZ.out.later HLY.out)).has rfl (by omega) HLT.out (by rw [List.length_set, HRV.out]) (by omega) (HROW.out.later HLY.out).has).mono ?_
        rintro e z0 ⟨rfl, lz⟩
        rw [HT1.out]
        have LZ := Lib.hid (HLY.out.trans lz)
        have HFZ := Lib.hid (HFZ.out.later LZ.out)
        have HG := Lib.hid (HG.out.later LZ.out)
        have HB15 := Lib.hid (HB15.out.later LZ.out)
        have HB16 := Lib.hid (HB16.out.later LZ.out)
        have HROW := Lib.hid (HROW.out.later LZ.out)
        clear hy0 hly0 t0 t1 t2 t3 t4 t5 t6 s0 s1 lz HLT HLY
        have s0 := (HFZ.out.blk HS4.out (by have := HGG.out; omega)).cell 0 _ rfl
        have s1 := (HFZ.out.blk HS4.out (by have := HGG.out; omega)).cell 1 _ rfl
        have t0 := HB15.out.cell 0 _ rfl
        have t1 := HB15.out.cell 1 _ rfl
        have t2 := HB15.out.cell 2 _ rfl
        have t3 := HB15.out.cell 3 _ rfl
        have t4 := HB15.out.cell 4 _ rfl
        have t5 := HB15.out.cell 5 _ rfl
        have t6 := HB15.out.cell 6 _ rfl
        obtain ⟨ly1, hly1⟩ : ∃ x, (z0).heap.size = x := ⟨_, rfl⟩
        obtain ⟨y1, hy1⟩ : ∃ x, (z0).alloc (.cells (tcs nm 7 vt vi vs false true) 28) = x := ⟨_, rfl⟩
        have HLY := Lib.hid (show Later z0 y1 from hy1 ▸ Later.new _ _)
        have HLT := Lib.hid (show Has y1 (some ⟨ly1, 0, none⟩) (ft [⟨nm, 7, (vt, vi, vs), false, true⟩]) from (hy1 ▸ Blk.new z0 (tcs nm 7 vt vi vs false true) 28 ly1 hly1.symm : Blk y1 ly1 (tcs nm 7 vt vi vs false true) 28).has)
        go_wp2_with fail
        skip
        refine (predRow_any (some ⟨vb, voff, none⟩) vn vc vn cols (some ⟨ly1, 0, none⟩) 1 1 [⟨nm, 7, (vt, vi, vs), false, true⟩] (some ⟨q, 0, none⟩) vn rc (row.set k (0, 0, ⟨#[]⟩)) _ HCL.out.symm (by omega) (HV4.out.far (HFZ.out.later HLY.out)).has rfl (by omega) HLT.out (by rw [List.length_set, HRV.out]) (by omega) (HROW.out.later HLY.out).has).mono ?_
        rintro e z1 ⟨rfl, lz⟩
        rw [HT7.out]
        have LZ := Lib.hid (HLY.out.trans lz)
        have HFZ := Lib.hid (HFZ.out.later LZ.out)
        have HG := Lib.hid (HG.out.later LZ.out)
        have HB15 := Lib.hid (HB15.out.later LZ.out)
        have HB16 := Lib.hid (HB16.out.later LZ.out)
        have HROW := Lib.hid (HROW.out.later LZ.out)
        clear hy1 hly1 t0 t1 t2 t3 t4 t5 t6 s0 s1 lz HLT HLY
        have s0 := (HFZ.out.blk HS4.out (by have := HGG.out; omega)).cell 0 _ rfl
        have s1 := (HFZ.out.blk HS4.out (by have := HGG.out; omega)).cell 1 _ rfl
        have t0 := HB16.out.cell 0 _ rfl
        have t1 := HB16.out.cell 1 _ rfl
        have t2 := HB16.out.cell 2 _ rfl
        have t3 := HB16.out.cell 3 _ rfl
        have t4 := HB16.out.cell 4 _ rfl
        have t5 := HB16.out.cell 5 _ rfl
        have t6 := HB16.out.cell 6 _ rfl
        obtain ⟨ly2, hly2⟩ : ∃ x, (z1).heap.size = x := ⟨_, rfl⟩
        obtain ⟨y2, hy2⟩ : ∃ x, (z1).alloc (.cells (tcs nm 8 vt vi vs false true) 28) = x := ⟨_, rfl⟩
        have HLY := Lib.hid (show Later z1 y2 from hy2 ▸ Later.new _ _)
        have HLT := Lib.hid (show Has y2 (some ⟨ly2, 0, none⟩) (ft [⟨nm, 8, (vt, vi, vs), false, true⟩]) from (hy2 ▸ Blk.new z1 (tcs nm 8 vt vi vs false true) 28 ly2 hly2.symm : Blk y2 ly2 (tcs nm 8 vt vi vs false true) 28).has)
        go_wp2_with fail
        skip
        refine (predRow_any (some ⟨vb, voff, none⟩) vn vc vn cols (some ⟨ly2, 0, none⟩) 1 1 [⟨nm, 8, (vt, vi, vs), false, true⟩] (some ⟨q, 0, none⟩) vn rc (row.set k (0, 0, ⟨#[]⟩)) _ HCL.out.symm (by omega) (HV4.out.far (HFZ.out.later HLY.out)).has rfl (by omega) HLT.out (by rw [List.length_set, HRV.out]) (by omega) (HROW.out.later HLY.out).has).mono ?_
        rintro e z2 ⟨rfl, lz⟩
        rw [HT8.out]
        have LZ := Lib.hid (HLY.out.trans lz)
        have HFZ := Lib.hid (HFZ.out.later LZ.out)
        have HG := Lib.hid (HG.out.later LZ.out)
        have HB15 := Lib.hid (HB15.out.later LZ.out)
        have HB16 := Lib.hid (HB16.out.later LZ.out)
        have HROW := Lib.hid (HROW.out.later LZ.out)
        clear hy2 hly2 t0 t1 t2 t3 t4 t5 t6 s0 s1 lz HLT HLY
        have s0 := (HFZ.out.blk HS4.out (by have := HGG.out; omega)).cell 0 _ rfl
        have s1 := (HFZ.out.blk HS4.out (by have := HGG.out; omega)).cell 1 _ rfl
        have t0 := HG.out.cell 0 _ rfl
        have t1 := HG.out.cell 1 _ rfl
        have t2 := HG.out.cell 2 _ rfl
        have t3 := HG.out.cell 3 _ rfl
        have t4 := HG.out.cell 4 _ rfl
        have t5 := HG.out.cell 5 _ rfl
        have t6 := HG.out.cell 6 _ rfl
        obtain ⟨ly3, hly3⟩ : ∃ x, z2.heap.size = x := ⟨_, rfl⟩
        have HLY := Lib.hid ((Later.new z2 (.cells (tcs nm (1 + (o6 : Int)) vt vi vs false true) 28)).alloc (.cells #[] 52))
        have HLT := Lib.hid (((Blk.new z2 (tcs nm (1 + (o6 : Int)) vt vi vs false true) 28 ly3 hly3.symm).later (Later.new _ (.cells #[] 52))).has (cs := ft [⟨nm, (1 + (o6 : Int)), (vt, vi, vs), false, true⟩]))
        go_wp2_with fail
        refine (predRows_any (some ⟨vb, voff, none⟩) vn vc vn cols (some ⟨ly3, 0, none⟩) 1 1 [⟨nm, (1 + (o6 : Int)), (vt, vi, vs), false, true⟩] _ 0 0 [] _ HCL.out.symm (by omega) (HV4.out.far (HFZ.out.later HLY.out)).has rfl (by omega) HLT.out rfl (by omega) ⟨.inl rfl, fun s hs => by cases hs⟩ (fun s hs => by cases hs)).mono ?_
        rintro e z3 ⟨PA, pc, rfl, _, _, _, lz⟩
        have HFZ := Lib.hid ((HFZ.out.later HLY.out).later lz)
        clear hly3 t0 t1 t2 t3 t4 t5 t6 s0 s1 lz HLT HLY
        rw [show (passTo cols [⟨nm, (1 + (o6 : Int)), (vt, vi, vs), false, true⟩] (rowsC (colsOf [])) (rowsC (colsOf [])).length).length = 0 from Nat.le_zero.1 (Nat.le_trans (passTo_len _ _ _ _) (by first | exact Nat.le_refl _ | decide | simp [rowsC, colsOf, heightC]))]
        go_wp2_with fail
        go_ret
        exact ⟨rfl, HL1.out.trans ((HF4.out.trans HFZ.out).out HG0.out.symm HL2.out)⟩
      · have hnt' : nt = false := by simpa using hnt
        subst hnt'
        have s0 := (HFZ.out.blk HS4.out (by have := HGG.out; omega)).cell 0 _ rfl
        have s1 := (HFZ.out.blk HS4.out (by have := HGG.out; omega)).cell 1 _ rfl
        have HT1 := Lib.hid (rowT_null cols row k (by rw [HRV.out]; exact hkv) nm HF.out (1 + (o6 : Int)) (vt, vi, vs) false ⟨by omega, by omega⟩)
        have HT7 := Lib.hid (rowT_isNull cols row k (by rw [HRV.out]; exact hkv) nm HF.out (vt, vi, vs) false)
        have HT8 := Lib.hid (rowT_notNull cols row k (by rw [HRV.out]; exact hkv) nm HF.out (vt, vi, vs) false)
        clear hnt
        have t0 := HG.out.cell 0 _ rfl
        have t1 := HG.out.cell 1 _ rfl
        have t2 := HG.out.cell 2 _ rfl
        have t3 := HG.out.cell 3 _ rfl
        have t4 := HG.out.cell 4 _ rfl
        have t5 := HG.out.cell 5 _ rfl
        have t6 := HG.out.cell 6 _ rfl
        obtain ⟨ly0, hly0⟩ : ∃ x, (wd_1).heap.size = x := ⟨_, rfl⟩
        obtain ⟨y0, hy0⟩ : ∃ x, (wd_1).alloc (.cells (tcs nm (1 + (o6 : Int)) vt vi vs false false) 28) = x := ⟨_, rfl⟩
        have HLY := Lib.hid (show Later wd_1 y0 from hy0 ▸ Later.new _ _)
        have HLT := Lib.hid (show Has y0 (some ⟨ly0, 0, none⟩) (ft [⟨nm, (1 + (o6 : Int)), (vt, vi, vs), false, false⟩]) from (hy0 ▸ Blk.new wd_1 (tcs nm (1 + (o6 : Int)) vt vi vs false false) 28 ly0 hly0.symm : Blk y0 ly0 (tcs nm (1 + (o6 : Int)) vt vi vs false false) 28).has)
        go_wp2_with fail
        clear x1 y1 p1 q1 hwwc1 hwwd_1
        refine (predRow_any (some ⟨vb, voff, none⟩) vn vc vn cols (some ⟨ly0, 0, none⟩) 1 1 [⟨nm, (1 + (o6 : Int)), (vt, vi, vs), false, false⟩] (some ⟨q, 0, none⟩) vn rc (row.set k (0, 0, ⟨#[]⟩)) _ HCL.out.symm (by omega) (HV4.out.far (HFZ.out.later HLY.out)).has rfl (by omega) HLT.out (by rw [List.length_set, HRV.out]) (by omega) (HROW.out.later HLY.out).has).mono ?_
        rintro e z0 ⟨rfl, lz⟩
        rw [HT1.out]
        have LZ := Lib.hid (HLY.out.trans lz)
        have HFZ := Lib.hid (HFZ.out.later LZ.out)
        have HG := Lib.hid (HG.out.later LZ.out)
        have HB15 := Lib.hid (HB15.out.later LZ.out)
        have HB16 := Lib.hid (HB16.out.later LZ.out)
        have HROW := Lib.hid (HROW.out.later LZ.out)
        clear hy0 hly0 t0 t1 t2 t3 t4 t5 t6 s0 s1 lz HLT HLY
        have s0 := (HFZ.out.blk HS4.out (by have := HGG.out; omega)).cell 0 _ rfl
        have s1 := (HFZ.out.blk HS4.out (by have := HGG.out; omega)).cell 1 _ rfl
        have t0 := HB15.out.cell 0 _ rfl
        have t1 := HB15.out.cell 1 _ rfl
        have t2 := HB15.out.cell 2 _ rfl
        have t3 := HB15.out.cell 3 _ rfl
        have t4 := HB15.out.cell 4 _ rfl
        have t5 := HB15.out.cell 5 _ rfl
        have t6 := HB15.out.cell 6 _ rfl
        obtain ⟨ly1, hly1⟩ : ∃ x, (z0).heap.size = x := ⟨_, rfl⟩
        obtain ⟨y1, hy1⟩ : ∃ x, (z0).alloc (.cells (tcs nm 7 vt vi vs false false) 28) = x := ⟨_, rfl⟩
        have HLY := Lib.hid (show Later z0 y1 from hy1 ▸ Later.new _ _)
        have HLT := Lib.hid (show Has y1 (some ⟨ly1, 0, none⟩) (ft [⟨nm, 7, (vt, vi, vs), false, false⟩]) from (hy1 ▸ Blk.new z0 (tcs nm 7 vt vi vs false false) 28 ly1 hly1.symm : Blk y1 ly1 (tcs nm 7 vt vi vs false false) 28).has)
        go_wp2_with fail
        skip
        refine (predRow_any (some ⟨vb, voff, none⟩) vn vc vn cols (some ⟨ly1, 0, none⟩) 1 1 [⟨nm, 7, (vt, vi, vs), false, false⟩] (some ⟨q, 0, none⟩) vn rc (row.set k (0, 0, ⟨#[]⟩)) _ HCL.out.symm (by omega) (HV4.out.far (HFZ.out.later HLY.out)).has rfl (by omega) HLT.out (by rw [List.length_set, HRV.out]) (by omega) (HROW.out.later HLY.out).has).mono ?_
        rintro e z1 ⟨rfl, lz⟩
        rw [HT7.out]
        have LZ := Lib.hid (HLY.out.trans lz)
        have HFZ := Lib.hid (HFZ.out.later LZ.out)
        have HG := Lib.hid (HG.out.later LZ.out)
        have HB15 := Lib.hid (HB15.out.later LZ.out)
        have HB16 := Lib.hid (HB16.out.later LZ.out)
        have HROW := Lib.hid (HROW.out.later LZ.out)
        clear hy1 hly1 t0 t1 t2 t3 t4 t5 t6 s0 s1 lz HLT HLY
        have s0 := (HFZ.out.blk HS4.out (by have := HGG.out; omega)).cell 0 _ rfl
        have s1 := (HFZ.out.blk HS4.out (by have := HGG.out; omega)).cell 1 _ rfl
        have t0 := HB16.out.cell 0 _ rfl
        have t1 := HB16.out.cell 1 _ rfl
        have t2 := HB16.out.cell 2 _ rfl
        have t3 := HB16.out.cell 3 _ rfl
        have t4 := HB16.out.cell 4 _ rfl
        have t5 := HB16.out.cell 5 _ rfl
        have t6 := HB16.out.cell 6 _ rfl
        obtain ⟨ly2, hly2⟩ : ∃ x, (z1).heap.size = x := ⟨_, rfl⟩
        obtain ⟨y2, hy2⟩ : ∃ x, (z1).alloc (.cells (tcs nm 8 vt vi vs false false) 28) = x := ⟨_, rfl⟩
        have HLY := Lib.hid (show Later z1 y2 from hy2 ▸ Later.new _ _)
        have HLT := Lib.hid (show Has y2 (some ⟨ly2, 0, none⟩) (ft [⟨nm, 8, (vt, vi, vs), false, false⟩]) from (hy2 ▸ Blk.new z1 (tcs nm 8 vt vi vs false false) 28 ly2 hly2.symm : Blk y2 ly2 (tcs nm 8 vt vi vs false false) 28).has)
        go_wp2_with fail
        skip
        refine (predRow_any (some ⟨vb, voff, none⟩) vn vc vn cols (some ⟨ly2, 0, none⟩) 1 1 [⟨nm, 8, (vt, vi, vs), false, false⟩] (some ⟨q, 0, none⟩) vn rc (row.set k (0, 0, ⟨#[]⟩)) _ HCL.out.symm (by omega) (HV4.out.far (HFZ.out.later HLY.out)).has rfl (by omega) HLT.out (by rw [List.length_set, HRV.out]) (by omega) (HROW.out.later HLY.out).has).mono ?_
        rintro e z2 ⟨rfl, lz⟩
        rw [HT8.out]
        have LZ := Lib.hid (HLY.out.trans lz)
        have HFZ := Lib.hid (HFZ.out.later LZ.out)
        have HG := Lib.hid (HG.out.later LZ.out)
        have HB15 := Lib.hid (HB15.out.later LZ.out)
        have HB16 := Lib.hid (HB16.out.later LZ.out)
        have HROW := Lib.hid (HROW.out.later LZ.out)
        clear hy2 hly2 t0 t1 t2 t3 t4 t5 t6 s0 s1 lz HLT HLY
        have s0 := (HFZ.out.blk HS4.out (by have := HGG.out; omega)).cell 0 _ rfl
        have s1 := (HFZ.out.blk HS4.out (by have := HGG.out; omega)).cell 1 _ rfl
        have t0 := HG.out.cell 0 _ rfl
        have t1 := HG.out.cell 1 _ rfl
        have t2 := HG.out.cell 2 _ rfl
        have t3 := HG.out.cell 3 _ rfl
        have t4 := HG.out.cell 4 _ rfl
        have t5 := HG.out.cell 5 _ rfl
        have t6 := HG.out.cell 6 _ rfl
        obtain ⟨ly3, hly3⟩ : ∃ x, z2.heap.size = x := ⟨_, rfl⟩
        have HLY := Lib.hid ((Later.new z2 (.cells (tcs nm (1 + (o6 : Int)) vt vi vs false false) 28)).alloc (.cells #[] 52))
        have HLT := Lib.hid (((Blk.new z2 (tcs nm (1 + (o6 : Int)) vt vi vs false false) 28 ly3 hly3.symm).later (Later.new _ (.cells #[] 52))).has (cs := ft [⟨nm, (1 + (o6 : Int)), (vt, vi, vs), false, false⟩]))
        go_wp2_with fail
        refine (predRows_any (some ⟨vb, voff, none⟩) vn vc vn cols (some ⟨ly3, 0, none⟩) 1 1 [⟨nm, (1 + (o6 : Int)), (vt, vi, vs), false, false⟩] _ 0 0 [] _ HCL.out.symm (by omega) (HV4.out.far (HFZ.out.later HLY.out)).has rfl (by omega) HLT.out rfl (by omega) ⟨.inl rfl, fun s hs => by cases hs⟩ (fun s hs => by cases hs)).mono ?_
        rintro e z3 ⟨PA, pc, rfl, _, _, _, lz⟩
        have HFZ := Lib.hid ((HFZ.out.later HLY.out).later lz)
        clear hly3 t0 t1 t2 t3 t4 t5 t6 s0 s1 lz HLT HLY
        rw [show (passTo cols [⟨nm, (1 + (o6 : Int)), (vt, vi, vs), false, false⟩] (rowsC (colsOf [])) (rowsC (colsOf [])).length).length = 0 from Nat.le_zero.1 (Nat.le_trans (passTo_len _ _ _ _) (by first | exact Nat.le_refl _ | decide | simp [rowsC, colsOf, heightC]))]
        go_wp2_with fail
        go_ret
        exact ⟨rfl, HL1.out.trans ((HF4.out.trans HFZ.out).out HG0.out.symm HL2.out)⟩
  · skip
    refine stepZ (o := { dst := some 14, op := _, type := _, pos := _, after := _, guard := _ }) rfl (fun K hK => ?_)
    go_simp
    obtain ⟨gt, hgt⟩ : ∃ x, (wd).heap.size = x := ⟨_, rfl⟩
    obtain ⟨wl, hwl⟩ : ∃ x, (wd).alloc (.cells #[.string ⟨#[]⟩, .int .i64 0, .int .i64 0, .int .i64 0, .string ⟨#[]⟩, .bool false, .bool false] 28) = x := ⟨_, rfl⟩
    have ll : Later wd wl := hwl ▸ Later.new _ _
    have HBT := Lib.hid (hwl ▸ Blk.new wd #[.string ⟨#[]⟩, .int .i64 0, .int .i64 0, .int .i64 0, .string ⟨#[]⟩, .bool false, .bool false] 28 gt hgt.symm)
    have HGT := Lib.hid (show w4.heap.size ≤ gt by rw [← hgt]; exact Far.size hS)
    have HTQ := Lib.hid (show gt ≠ q by have : q < (wd).heap.size := hqd; omega)
    try rw [hgt]
    rw [hwl]
    have HP := Lib.hid (HP.out.later ll)
    have HROW := Lib.hid (HROW.out.later ll)
    have hS : (fun W : World => Far g w4 W) wl := Far.later hS ll
    refine hK _ _ hS ?_
    clear hK hwl ll hgt
    (try simp only [Act.put, List.setIfInBounds_toArray, List.set_cons_zero, List.set_cons_succ])
    refine wpAnyZ_all (rs := [17]) (by kernel_rfl) (by simp) (fun i hi => ?_)
    simp only [List.mem_cons, List.not_mem_nil, or_false] at hi
    subst hi
    refine stepZ (o := { dst := some 60, op := _, type := _, pos := _, after := _, guard := _ }) rfl (fun K hK => ?_)
    go_simp
    refine (valueP ty g A n c bs wl HCC.out HP.out).mono ?_
    rintro e wn ⟨vt, vi, vs, rfl, hv, hp, hf⟩
    have HP := Lib.hid hp
    have HFN := Lib.hid hf
    have HROW := Lib.hid (HROW.out.far hf)
    have hS : (fun W : World => Far g w4 W) wn := Far.trans hS hf
    refine hK _ _ hS ?_
    clear hK hp hf hv
    (try simp only [Act.put, List.setIfInBounds_toArray, List.set_cons_zero, List.set_cons_succ])
    have HBT := Lib.hid (HFN.out.blk HBT.out (by have := HGT.out; have := HF4.out.size; have := HPK2L.out; omega))
    refine wpAnyZ_take (i := 19) (oi := { dst := some 62, op := _, type := _, pos := _, after := _, guard := _ }) (v := ?_) rfl (by kernel_rfl) (by kernel_rfl) (by kernel_rfl) (by kernel_rfl) (fun _ _ _ h => h) (Or.inl ⟨by rfl, ?_⟩) hS ?_
    rotate_left
    focus ((intro w hSw; (try dsimp only at hSw); obtain ⟨d0, d1, d2⟩ := HC10.out w hSw; go_simp); (try with_reducible rfl))
    (try simp only [Act.put, List.setIfInBounds_toArray, List.set_cons_zero, List.set_cons_succ])
    refine wpAnyZ_all (rs := [21]) (by kernel_rfl) (by simp) (fun i hi => ?_)
    simp only [List.mem_cons, List.not_mem_nil, or_false] at hi
    subst hi
    have B := HBT.out
    have u := Below.refl w4.heap.size wn
    have x0 := B.cell 0 _ rfl
    have y0 := B.frozen 0
    have B := B.set_ 0 (.string nm)
    have u : Below w4.heap.size wn ((wn).setCell ⟨gt, 0, none⟩ (.string nm)) := u.setCell (p := ⟨gt, 0, none⟩) HGT.out _
    have HROW := Lib.hid (HROW.out.off (p := ⟨gt, 0, none⟩) HTQ.out.symm (.string nm))
    obtain ⟨wv0, hwv0⟩ : ∃ x, (wn).setCell ⟨gt, 0, none⟩ (.string nm) = x := ⟨_, rfl⟩
    rw [hwv0] at B u HROW
    have x1 := B.cell 1 _ rfl
    have y1 := B.frozen 1
    have B := B.set_ 1 (.int .i64 (1 + (o6 : Int)))
    have u : Below w4.heap.size wn ((wv0).setCell ⟨gt, 1, none⟩ (.int .i64 (1 + (o6 : Int)))) := u.setCell (p := ⟨gt, 1, none⟩) HGT.out _
    have HROW := Lib.hid (HROW.out.off (p := ⟨gt, 1, none⟩) HTQ.out.symm (.int .i64 (1 + (o6 : Int))))
    obtain ⟨wv1, hwv1⟩ : ∃ x, (wv0).setCell ⟨gt, 1, none⟩ (.int .i64 (1 + (o6 : Int))) = x := ⟨_, rfl⟩
    rw [hwv1] at B u HROW
    have x2 := B.cell 2 _ rfl
    have y2 := B.frozen 2
    have B := B.set_ 2 (.int .i64 vt)
    have u : Below w4.heap.size wn ((wv1).setCell ⟨gt, 2, none⟩ (.int .i64 vt)) := u.setCell (p := ⟨gt, 2, none⟩) HGT.out _
    have HROW := Lib.hid (HROW.out.off (p := ⟨gt, 2, none⟩) HTQ.out.symm (.int .i64 vt))
    obtain ⟨wv2, hwv2⟩ : ∃ x, (wv1).setCell ⟨gt, 2, none⟩ (.int .i64 vt) = x := ⟨_, rfl⟩
    rw [hwv2] at B u HROW
    have x3 := B.cell 3 _ rfl
    have y3 := B.frozen 3
    have B := B.set_ 3 (.int .i64 vi)
    have u : Below w4.heap.size wn ((wv2).setCell ⟨gt, 3, none⟩ (.int .i64 vi)) := u.setCell (p := ⟨gt, 3, none⟩) HGT.out _
    have HROW := Lib.hid (HROW.out.off (p := ⟨gt, 3, none⟩) HTQ.out.symm (.int .i64 vi))
    obtain ⟨wv3, hwv3⟩ : ∃ x, (wv2).setCell ⟨gt, 3, none⟩ (.int .i64 vi) = x := ⟨_, rfl⟩
    rw [hwv3] at B u HROW
    have x4 := B.cell 4 _ rfl
    have y4 := B.frozen 4
    have B := B.set_ 4 (.string vs)
    have u : Below w4.heap.size wn ((wv3).setCell ⟨gt, 4, none⟩ (.string vs)) := u.setCell (p := ⟨gt, 4, none⟩) HGT.out _
    have HROW := Lib.hid (HROW.out.off (p := ⟨gt, 4, none⟩) HTQ.out.symm (.string vs))
    obtain ⟨wv4, hwv4⟩ : ∃ x, (wv3).setCell ⟨gt, 4, none⟩ (.string vs) = x := ⟨_, rfl⟩
    rw [hwv4] at B u HROW
    have x5 := B.cell 5 _ rfl
    have y5 := B.frozen 5
    have B := B.set_ 5 (.bool false)
    have u : Below w4.heap.size wn ((wv4).setCell ⟨gt, 5, none⟩ (.bool false)) := u.setCell (p := ⟨gt, 5, none⟩) HGT.out _
    have HROW := Lib.hid (HROW.out.off (p := ⟨gt, 5, none⟩) HTQ.out.symm (.bool false))
    obtain ⟨wv5, hwv5⟩ : ∃ x, (wv4).setCell ⟨gt, 5, none⟩ (.bool false) = x := ⟨_, rfl⟩
    rw [hwv5] at B u HROW
    have x6 := B.cell 6 _ rfl
    have y6 := B.frozen 6
    have B := B.set_ 6 (.bool nt)
    have u : Below w4.heap.size wn ((wv5).setCell ⟨gt, 6, none⟩ (.bool nt)) := u.setCell (p := ⟨gt, 6, none⟩) HGT.out _
    have HROW := Lib.hid (HROW.out.off (p := ⟨gt, 6, none⟩) HTQ.out.symm (.bool nt))
    obtain ⟨wv6, hwv6⟩ : ∃ x, (wv5).setCell ⟨gt, 6, none⟩ (.bool nt) = x := ⟨_, rfl⟩
    rw [hwv6] at B u HROW
    refine stepZl (o := { dst := none, op := _, type := _, pos := _, after := _, guard := _ }) rfl (fun K hK => ?_)
    go_simp
    refine hK _ _ ?_
    have HFZ := Lib.hid (Far.below hS u)
    have HBT := Lib.hid (show Blk wv6 gt (tcs nm (1 + (o6 : Int)) vt vi vs false nt) 28 from B)
    clear hK B u x0 y0 hwv0 x1 y1 hwv1 x2 y2 hwv2 x3 y3 hwv3 x4 y4 hwv4 x5 y5 hwv5 x6 y6 hwv6
    (try simp only [Act.put, List.setIfInBounds_toArray, List.set_cons_zero, List.set_cons_succ])
    refine wpAnyZ_done (by kernel_rfl) ?_ _
    go_wp2_with fail
    have hS : (fun W : World => Blk W gt (tcs nm (1 + (o6 : Int)) vt vi vs false nt) 28 ∧ Far g w4 W) wv6.drew := ⟨HBT.out.later (Later.refl _).drew, HFZ.out.later (Later.refl _).drew⟩
    have HROW := Lib.hid (HROW.out.later (Later.refl _).drew)
    refine wp_region_Z (S := (fun W : World => Blk W gt (tcs nm (1 + (o6 : Int)) vt vi vs false nt) 28 ∧ Far g w4 W)) 5 (by kernel_rfl) ?_
    obtain ⟨we, hwe⟩ : ∃ x, wv6.drew = x := ⟨_, rfl⟩
    rw [hwe] at hS HROW ⊢
    clear hwe HBT HFZ
    refine wpAnyZ_take (i := 0) (oi := { dst := some 63, op := _, type := _, pos := _, after := _, guard := _ }) (v := ?_) rfl (by kernel_rfl) (by kernel_rfl) (by kernel_rfl) (by kernel_rfl) (fun _ _ _ h => h) (Or.inl ⟨by rfl, ?_⟩) hS ?_
    rotate_left
    focus ((intro w hSw; (try dsimp only at hSw); obtain ⟨hB, _⟩ := hSw; have d0 := hB.cell 0 _ rfl; have d1 := hB.cell 1 _ rfl; have d2 := hB.cell 2 _ rfl; have d3 := hB.cell 3 _ rfl; have d4 := hB.cell 4 _ rfl; have d5 := hB.cell 5 _ rfl; have d6 := hB.cell 6 _ rfl; go_simp); (try with_reducible rfl))
    (try simp only [Act.put, List.setIfInBounds_toArray, List.set_cons_zero, List.set_cons_succ])
    refine wpAnyZ_take (i := 1) (oi := { dst := some 64, op := _, type := _, pos := _, after := _, guard := _ }) (v := ?_) rfl (by kernel_rfl) (by kernel_rfl) (by kernel_rfl) (by kernel_rfl) (fun _ _ _ h => h) (Or.inl ⟨by rfl, ?_⟩) hS ?_
    rotate_left
    focus ((intro w hSw; (try dsimp only at hSw); obtain ⟨hB, _⟩ := hSw; have d0 := hB.cell 0 _ rfl; have d1 := hB.cell 1 _ rfl; have d2 := hB.cell 2 _ rfl; have d3 := hB.cell 3 _ rfl; have d4 := hB.cell 4 _ rfl; have d5 := hB.cell 5 _ rfl; have d6 := hB.cell 6 _ rfl; go_simp); (try with_reducible rfl))
    (try simp only [Act.put, List.setIfInBounds_toArray, List.set_cons_zero, List.set_cons_succ])
    refine wpAnyZ_all (rs := [2, 3]) (by kernel_rfl) (by simp) (fun i hi => ?_)
    simp only [List.mem_cons, List.not_mem_nil, or_false] at hi
    rcases hi with rfl | rfl
    · skip
      refine stepZ (o := { dst := some 15, op := _, type := _, pos := _, after := _, guard := _ }) rfl (fun K hK => ?_)
      go_simp
      obtain ⟨b15, hb⟩ : ∃ x, (we).heap.size = x := ⟨_, rfl⟩
      obtain ⟨wl15, hwl⟩ : ∃ x, (we).alloc (.cells #[.string ⟨#[]⟩, .int .i64 0, .int .i64 0, .int .i64 0, .string ⟨#[]⟩, .bool false, .bool false] 28) = x := ⟨_, rfl⟩
      have ll : Later we wl15 := hwl ▸ Later.new _ _
      have n15 : gt < b15 ∧ q < b15 ∧ w4.heap.size ≤ b15 := by rw [← hb]; exact ⟨Blk.lt hS.1, HROW.out.lt HNE.out, Far.size hS.2⟩
      
      have HB15 := Lib.hid (hwl ▸ Blk.new we #[.string ⟨#[]⟩, .int .i64 0, .int .i64 0, .int .i64 0, .string ⟨#[]⟩, .bool false, .bool false] 28 b15 hb.symm)
      
      try rw [hb]
      rw [hwl]
      have HROW := Lib.hid (HROW.out.later ll)
      have hS : (fun W : World => Blk W gt (tcs nm (1 + (o6 : Int)) vt vi vs false nt) 28 ∧ Far g w4 W) wl15 := ⟨Blk.later hS.1 ll, Far.later hS.2 ll⟩
      refine hK _ _ hS ?_
      clear hK hwl ll hb
      (try simp only [Act.put, List.setIfInBounds_toArray, List.set_cons_zero, List.set_cons_succ])
      refine wpAnyZ_all (rs := [3]) (by kernel_rfl) (by simp) (fun i hi => ?_)
      simp only [List.mem_cons, List.not_mem_nil, or_false] at hi
      subst hi
      refine stepZ (o := { dst := some 16, op := _, type := _, pos := _, after := _, guard := _ }) rfl (fun K hK => ?_)
      go_simp
      obtain ⟨b16, hb⟩ : ∃ x, (wl15).heap.size = x := ⟨_, rfl⟩
      obtain ⟨wl16, hwl⟩ : ∃ x, (wl15).alloc (.cells #[.string ⟨#[]⟩, .int .i64 0, .int .i64 0, .int .i64 0, .string ⟨#[]⟩, .bool false, .bool false] 28) = x := ⟨_, rfl⟩
      have ll : Later wl15 wl16 := hwl ▸ Later.new _ _
      have n16 : gt < b16 ∧ q < b16 ∧ w4.heap.size ≤ b16 := by rw [← hb]; exact ⟨Blk.lt hS.1, HROW.out.lt HNE.out, Far.size hS.2⟩
      have n12 : b15 < b16 := by rw [← hb]; exact HB15.out.lt
      have HB16 := Lib.hid (hwl ▸ Blk.new wl15 #[.string ⟨#[]⟩, .int .i64 0, .int .i64 0, .int .i64 0, .string ⟨#[]⟩, .bool false, .bool false] 28 b16 hb.symm)
      have HB15 := Lib.hid (HB15.out.later ll)
      try rw [hb]
      rw [hwl]
      have HROW := Lib.hid (HROW.out.later ll)
      have hS : (fun W : World => Blk W gt (tcs nm (1 + (o6 : Int)) vt vi vs false nt) 28 ∧ Far g w4 W) wl16 := ⟨Blk.later hS.1 ll, Far.later hS.2 ll⟩
      refine hK _ _ hS ?_
      clear hK hwl ll hb
      (try simp only [Act.put, List.setIfInBounds_toArray, List.set_cons_zero, List.set_cons_succ])
      refine wpAnyZ_all (rs := [4]) (by kernel_rfl) (by simp) (fun i hi => ?_)
      simp only [List.mem_cons, List.not_mem_nil, or_false] at hi
      subst hi
      have B := HB15.out
      have O := HB16.out
      have G := hS.1
      have u := Below.refl w4.heap.size wl16
      have x0 := B.cell 0 _ rfl
      have y0 := B.frozen 0
      have B := B.set_ 0 (.string nm)
      have O := Blk.off O (p := ⟨b15, 0, none⟩) (by show b16 ≠ b15; omega) (.string nm)
      have G := Blk.off G (p := ⟨b15, 0, none⟩) (by show gt ≠ b15; omega) (.string nm)
      have u : Below w4.heap.size wl16 ((wl16).setCell ⟨b15, 0, none⟩ (.string nm)) := u.setCell (p := ⟨b15, 0, none⟩) (by show w4.heap.size ≤ b15; omega) _
      have HROW := Lib.hid (HROW.out.off (p := ⟨b15, 0, none⟩) (by show q ≠ b15; omega) (.string nm))
      obtain ⟨wa0, hwwa0⟩ : ∃ x, (wl16).setCell ⟨b15, 0, none⟩ (.string nm) = x := ⟨_, rfl⟩
      rw [hwwa0] at B O G u HROW
      have x1 := B.cell 1 _ rfl
      have y1 := B.frozen 1
      have B := B.set_ 1 (.int .i64 (1 + (o6 : Int)))
      have O := Blk.off O (p := ⟨b15, 1, none⟩) (by show b16 ≠ b15; omega) (.int .i64 (1 + (o6 : Int)))
      have G := Blk.off G (p := ⟨b15, 1, none⟩) (by show gt ≠ b15; omega) (.int .i64 (1 + (o6 : Int)))
      have u : Below w4.heap.size wl16 ((wa0).setCell ⟨b15, 1, none⟩ (.int .i64 (1 + (o6 : Int)))) := u.setCell (p := ⟨b15, 1, none⟩) (by show w4.heap.size ≤ b15; omega) _
      have HROW := Lib.hid (HROW.out.off (p := ⟨b15, 1, none⟩) (by show q ≠ b15; omega) (.int .i64 (1 + (o6 : Int))))
      obtain ⟨wa1, hwwa1⟩ : ∃ x, (wa0).setCell ⟨b15, 1, none⟩ (.int .i64 (1 + (o6 : Int))) = x := ⟨_, rfl⟩
      rw [hwwa1] at B O G u HROW
      have x2 := B.cell 2 _ rfl
      have y2 := B.frozen 2
      have B := B.set_ 2 (.int .i64 vt)
      have O := Blk.off O (p := ⟨b15, 2, none⟩) (by show b16 ≠ b15; omega) (.int .i64 vt)
      have G := Blk.off G (p := ⟨b15, 2, none⟩) (by show gt ≠ b15; omega) (.int .i64 vt)
      have u : Below w4.heap.size wl16 ((wa1).setCell ⟨b15, 2, none⟩ (.int .i64 vt)) := u.setCell (p := ⟨b15, 2, none⟩) (by show w4.heap.size ≤ b15; omega) _
      have HROW := Lib.hid (HROW.out.off (p := ⟨b15, 2, none⟩) (by show q ≠ b15; omega) (.int .i64 vt))
      obtain ⟨wa2, hwwa2⟩ : ∃ x, (wa1).setCell ⟨b15, 2, none⟩ (.int .i64 vt) = x := ⟨_, rfl⟩
      rw [hwwa2] at B O G u HROW
      have x3 := B.cell 3 _ rfl
      have y3 := B.frozen 3
      have B := B.set_ 3 (.int .i64 vi)
      have O := Blk.off O (p := ⟨b15, 3, none⟩) (by show b16 ≠ b15; omega) (.int .i64 vi)
      have G := Blk.off G (p := ⟨b15, 3, none⟩) (by show gt ≠ b15; omega) (.int .i64 vi)
      have u : Below w4.heap.size wl16 ((wa2).setCell ⟨b15, 3, none⟩ (.int .i64 vi)) := u.setCell (p := ⟨b15, 3, none⟩) (by show w4.heap.size ≤ b15; omega) _
      have HROW := Lib.hid (HROW.out.off (p := ⟨b15, 3, none⟩) (by show q ≠ b15; omega) (.int .i64 vi))
      obtain ⟨wa3, hwwa3⟩ : ∃ x, (wa2).setCell ⟨b15, 3, none⟩ (.int .i64 vi) = x := ⟨_, rfl⟩
      rw [hwwa3] at B O G u HROW
      have x4 := B.cell 4 _ rfl
      have y4 := B.frozen 4
      have B := B.set_ 4 (.string vs)
      have O := Blk.off O (p := ⟨b15, 4, none⟩) (by show b16 ≠ b15; omega) (.string vs)
      have G := Blk.off G (p := ⟨b15, 4, none⟩) (by show gt ≠ b15; omega) (.string vs)
      have u : Below w4.heap.size wl16 ((wa3).setCell ⟨b15, 4, none⟩ (.string vs)) := u.setCell (p := ⟨b15, 4, none⟩) (by show w4.heap.size ≤ b15; omega) _
      have HROW := Lib.hid (HROW.out.off (p := ⟨b15, 4, none⟩) (by show q ≠ b15; omega) (.string vs))
      obtain ⟨wa4, hwwa4⟩ : ∃ x, (wa3).setCell ⟨b15, 4, none⟩ (.string vs) = x := ⟨_, rfl⟩
      rw [hwwa4] at B O G u HROW
      have x5 := B.cell 5 _ rfl
      have y5 := B.frozen 5
      have B := B.set_ 5 (.bool false)
      have O := Blk.off O (p := ⟨b15, 5, none⟩) (by show b16 ≠ b15; omega) (.bool false)
      have G := Blk.off G (p := ⟨b15, 5, none⟩) (by show gt ≠ b15; omega) (.bool false)
      have u : Below w4.heap.size wl16 ((wa4).setCell ⟨b15, 5, none⟩ (.bool false)) := u.setCell (p := ⟨b15, 5, none⟩) (by show w4.heap.size ≤ b15; omega) _
      have HROW := Lib.hid (HROW.out.off (p := ⟨b15, 5, none⟩) (by show q ≠ b15; omega) (.bool false))
      obtain ⟨wa5, hwwa5⟩ : ∃ x, (wa4).setCell ⟨b15, 5, none⟩ (.bool false) = x := ⟨_, rfl⟩
      rw [hwwa5] at B O G u HROW
      have x6 := B.cell 6 _ rfl
      have y6 := B.frozen 6
      have B := B.set_ 6 (.bool nt)
      have O := Blk.off O (p := ⟨b15, 6, none⟩) (by show b16 ≠ b15; omega) (.bool nt)
      have G := Blk.off G (p := ⟨b15, 6, none⟩) (by show gt ≠ b15; omega) (.bool nt)
      have u : Below w4.heap.size wl16 ((wa5).setCell ⟨b15, 6, none⟩ (.bool nt)) := u.setCell (p := ⟨b15, 6, none⟩) (by show w4.heap.size ≤ b15; omega) _
      have HROW := Lib.hid (HROW.out.off (p := ⟨b15, 6, none⟩) (by show q ≠ b15; omega) (.bool nt))
      obtain ⟨wa6, hwwa6⟩ : ∃ x, (wa5).setCell ⟨b15, 6, none⟩ (.bool nt) = x := ⟨_, rfl⟩
      rw [hwwa6] at B O G u HROW
      refine stepZ (o := { dst := none, op := _, type := _, pos := _, after := _, guard := _ }) rfl (fun K hK => ?_)
      go_simp
      have hS : (fun W : World => Blk W gt (tcs nm (1 + (o6 : Int)) vt vi vs false nt) 28 ∧ Far g w4 W) wa6 := ⟨G, Far.below hS.2 u⟩
      refine hK _ _ hS ?_
      have HB15 := Lib.hid (show Blk wa6 b15 (tcs nm (1 + (o6 : Int)) vt vi vs false nt) 28 from B)
      have HB16 := Lib.hid O
      clear hK B O G u x0 y0 hwwa0 x1 y1 hwwa1 x2 y2 hwwa2 x3 y3 hwwa3 x4 y4 hwwa4 x5 y5 hwwa5 x6 y6 hwwa6
      (try simp only [Act.put, List.setIfInBounds_toArray, List.set_cons_zero, List.set_cons_succ])
      refine wpAnyZ_all (rs := [5]) (by kernel_rfl) (by simp) (fun i hi => ?_)
      simp only [List.mem_cons, List.not_mem_nil, or_false] at hi
      subst hi
      have B := HB16.out
      have O := HB15.out
      have G := hS.1
      have u := Below.refl w4.heap.size wa6
      have x0 := B.cell 0 _ rfl
      have y0 := B.frozen 0
      have B := B.set_ 0 (.string nm)
      have O := Blk.off O (p := ⟨b16, 0, none⟩) (by show b15 ≠ b16; omega) (.string nm)
      have G := Blk.off G (p := ⟨b16, 0, none⟩) (by show gt ≠ b16; omega) (.string nm)
      have u : Below w4.heap.size wa6 ((wa6).setCell ⟨b16, 0, none⟩ (.string nm)) := u.setCell (p := ⟨b16, 0, none⟩) (by show w4.heap.size ≤ b16; omega) _
      have HROW := Lib.hid (HROW.out.off (p := ⟨b16, 0, none⟩) (by show q ≠ b16; omega) (.string nm))
      obtain ⟨wb0, hwwb0⟩ : ∃ x, (wa6).setCell ⟨b16, 0, none⟩ (.string nm) = x := ⟨_, rfl⟩
      rw [hwwb0] at B O G u HROW
      have x1 := B.cell 1 _ rfl
      have y1 := B.frozen 1
      have B := B.set_ 1 (.int .i64 (1 + (o6 : Int)))
      have O := Blk.off O (p := ⟨b16, 1, none⟩) (by show b15 ≠ b16; omega) (.int .i64 (1 + (o6 : Int)))
      have G := Blk.off G (p := ⟨b16, 1, none⟩) (by show gt ≠ b16; omega) (.int .i64 (1 + (o6 : Int)))
      have u : Below w4.heap.size wa6 ((wb0).setCell ⟨b16, 1, none⟩ (.int .i64 (1 + (o6 : Int)))) := u.setCell (p := ⟨b16, 1, none⟩) (by show w4.heap.size ≤ b16; omega) _
      have HROW := Lib.hid (HROW.out.off (p := ⟨b16, 1, none⟩) (by show q ≠ b16; omega) (.int .i64 (1 + (o6 : Int))))
      obtain ⟨wb1, hwwb1⟩ : ∃ x, (wb0).setCell ⟨b16, 1, none⟩ (.int .i64 (1 + (o6 : Int))) = x := ⟨_, rfl⟩
      rw [hwwb1] at B O G u HROW
      have x2 := B.cell 2 _ rfl
      have y2 := B.frozen 2
      have B := B.set_ 2 (.int .i64 vt)
      have O := Blk.off O (p := ⟨b16, 2, none⟩) (by show b15 ≠ b16; omega) (.int .i64 vt)
      have G := Blk.off G (p := ⟨b16, 2, none⟩) (by show gt ≠ b16; omega) (.int .i64 vt)
      have u : Below w4.heap.size wa6 ((wb1).setCell ⟨b16, 2, none⟩ (.int .i64 vt)) := u.setCell (p := ⟨b16, 2, none⟩) (by show w4.heap.size ≤ b16; omega) _
      have HROW := Lib.hid (HROW.out.off (p := ⟨b16, 2, none⟩) (by show q ≠ b16; omega) (.int .i64 vt))
      obtain ⟨wb2, hwwb2⟩ : ∃ x, (wb1).setCell ⟨b16, 2, none⟩ (.int .i64 vt) = x := ⟨_, rfl⟩
      rw [hwwb2] at B O G u HROW
      have x3 := B.cell 3 _ rfl
      have y3 := B.frozen 3
      have B := B.set_ 3 (.int .i64 vi)
      have O := Blk.off O (p := ⟨b16, 3, none⟩) (by show b15 ≠ b16; omega) (.int .i64 vi)
      have G := Blk.off G (p := ⟨b16, 3, none⟩) (by show gt ≠ b16; omega) (.int .i64 vi)
      have u : Below w4.heap.size wa6 ((wb2).setCell ⟨b16, 3, none⟩ (.int .i64 vi)) := u.setCell (p := ⟨b16, 3, none⟩) (by show w4.heap.size ≤ b16; omega) _
      have HROW := Lib.hid (HROW.out.off (p := ⟨b16, 3, none⟩) (by show q ≠ b16; omega) (.int .i64 vi))
      obtain ⟨wb3, hwwb3⟩ : ∃ x, (wb2).setCell ⟨b16, 3, none⟩ (.int .i64 vi) = x := ⟨_, rfl⟩
      rw [hwwb3] at B O G u HROW
      have x4 := B.cell 4 _ rfl
      have y4 := B.frozen 4
      have B := B.set_ 4 (.string vs)
      have O := Blk.off O (p := ⟨b16, 4, none⟩) (by show b15 ≠ b16; omega) (.string vs)
      have G := Blk.off G (p := ⟨b16, 4, none⟩) (by show gt ≠ b16; omega) (.string vs)
      have u : Below w4.heap.size wa6 ((wb3).setCell ⟨b16, 4, none⟩ (.string vs)) := u.setCell (p := ⟨b16, 4, none⟩) (by show w4.heap.size ≤ b16; omega) _
      have HROW := Lib.hid (HROW.out.off (p := ⟨b16, 4, none⟩) (by show q ≠ b16; omega) (.string vs))
      obtain ⟨wb4, hwwb4⟩ : ∃ x, (wb3).setCell ⟨b16, 4, none⟩ (.string vs) = x := ⟨_, rfl⟩
      rw [hwwb4] at B O G u HROW
      have x5 := B.cell 5 _ rfl
      have y5 := B.frozen 5
      have B := B.set_ 5 (.bool false)
      have O := Blk.off O (p := ⟨b16, 5, none⟩) (by show b15 ≠ b16; omega) (.bool false)
      have G := Blk.off G (p := ⟨b16, 5, none⟩) (by show gt ≠ b16; omega) (.bool false)
      have u : Below w4.heap.size wa6 ((wb4).setCell ⟨b16, 5, none⟩ (.bool false)) := u.setCell (p := ⟨b16, 5, none⟩) (by show w4.heap.size ≤ b16; omega) _
      have HROW := Lib.hid (HROW.out.off (p := ⟨b16, 5, none⟩) (by show q ≠ b16; omega) (.bool false))
      obtain ⟨wb5, hwwb5⟩ : ∃ x, (wb4).setCell ⟨b16, 5, none⟩ (.bool false) = x := ⟨_, rfl⟩
      rw [hwwb5] at B O G u HROW
      have x6 := B.cell 6 _ rfl
      have y6 := B.frozen 6
      have B := B.set_ 6 (.bool nt)
      have O := Blk.off O (p := ⟨b16, 6, none⟩) (by show b15 ≠ b16; omega) (.bool nt)
      have G := Blk.off G (p := ⟨b16, 6, none⟩) (by show gt ≠ b16; omega) (.bool nt)
      have u : Below w4.heap.size wa6 ((wb5).setCell ⟨b16, 6, none⟩ (.bool nt)) := u.setCell (p := ⟨b16, 6, none⟩) (by show w4.heap.size ≤ b16; omega) _
      have HROW := Lib.hid (HROW.out.off (p := ⟨b16, 6, none⟩) (by show q ≠ b16; omega) (.bool nt))
      obtain ⟨wb6, hwwb6⟩ : ∃ x, (wb5).setCell ⟨b16, 6, none⟩ (.bool nt) = x := ⟨_, rfl⟩
      rw [hwwb6] at B O G u HROW
      refine stepZl (o := { dst := none, op := _, type := _, pos := _, after := _, guard := _ }) rfl (fun K hK => ?_)
      go_simp
      refine hK _ _ ?_
      have hS : (fun W : World => Blk W gt (tcs nm (1 + (o6 : Int)) vt vi vs false nt) 28 ∧ Far g w4 W) wb6 := ⟨G, Far.below hS.2 u⟩
      have HB16 := Lib.hid (show Blk wb6 b16 (tcs nm (1 + (o6 : Int)) vt vi vs false nt) 28 from B)
      have HB15 := Lib.hid O
      clear hK B O G u x0 y0 hwwb0 x1 y1 hwwb1 x2 y2 hwwb2 x3 y3 hwwb3 x4 y4 hwwb4 x5 y5 hwwb5 x6 y6 hwwb6
      (try simp only [Act.put, List.setIfInBounds_toArray, List.set_cons_zero, List.set_cons_succ])
      refine wpAnyZ_done (by kernel_rfl) ?_ _
      have B := HB15.out
      have O := HB16.out
      have G := hS.1
      have u := Below.refl w4.heap.size wb6
      have x1 := B.cell 1 _ rfl
      have y1 := B.frozen 1
      have B := B.set_ 1 (.int .i64 7)
      have O := Blk.off O (p := ⟨b15, 1, none⟩) (by show b16 ≠ b15; omega) (.int .i64 7)
      have G := Blk.off G (p := ⟨b15, 1, none⟩) (by show gt ≠ b15; omega) (.int .i64 7)
      have u : Below w4.heap.size wb6 ((wb6).setCell ⟨b15, 1, none⟩ (.int .i64 7)) := u.setCell (p := ⟨b15, 1, none⟩) (by show w4.heap.size ≤ b15; omega) _
      have HROW := Lib.hid (HROW.out.off (p := ⟨b15, 1, none⟩) (by show q ≠ b15; omega) (.int .i64 7))
      obtain ⟨wc1, hwwc1⟩ : ∃ x, (wb6).setCell ⟨b15, 1, none⟩ (.int .i64 7) = x := ⟨_, rfl⟩
      rw [hwwc1] at B O G u HROW
      have HB15 := Lib.hid (show Blk wc1 b15 (tcs nm 7 vt vi vs false nt) 28 from B)
      have HB16 := Lib.hid O
      have hS : (fun W : World => Blk W gt (tcs nm (1 + (o6 : Int)) vt vi vs false nt) 28 ∧ Far g w4 W) wc1 := ⟨G, Far.below hS.2 u⟩
      have p1 := x1
      have q1 := y1
      clear B O G u x1 y1
      have B := HB16.out
      have O := HB15.out
      have G := hS.1
      have u := Below.refl w4.heap.size wc1
      have x1 := B.cell 1 _ rfl
      have y1 := B.frozen 1
      have B := B.set_ 1 (.int .i64 8)
      have O := Blk.off O (p := ⟨b16, 1, none⟩) (by show b15 ≠ b16; omega) (.int .i64 8)
      have G := Blk.off G (p := ⟨b16, 1, none⟩) (by show gt ≠ b16; omega) (.int .i64 8)
      have u : Below w4.heap.size wc1 ((wc1).setCell ⟨b16, 1, none⟩ (.int .i64 8)) := u.setCell (p := ⟨b16, 1, none⟩) (by show w4.heap.size ≤ b16; omega) _
      have HROW := Lib.hid (HROW.out.off (p := ⟨b16, 1, none⟩) (by show q ≠ b16; omega) (.int .i64 8))
      obtain ⟨wd_1, hwwd_1⟩ : ∃ x, (wc1).setCell ⟨b16, 1, none⟩ (.int .i64 8) = x := ⟨_, rfl⟩
      rw [hwwd_1] at B O G u HROW
      have HB16 := Lib.hid (show Blk wd_1 b16 (tcs nm 8 vt vi vs false nt) 28 from B)
      have HB15 := Lib.hid O
      have HG := Lib.hid G
      have HFZ := Lib.hid (Far.below hS.2 u)
      clear B O G u hS
      have HNT := Lib.hid (Eq.refl nt)
      by_cases hnt : nt = true
      · have hnt' : nt = true := by simpa using hnt
        subst hnt'
        have s0 := (HFZ.out.blk HS4.out (by have := HGG.out; omega)).cell 0 _ rfl
        have s1 := (HFZ.out.blk HS4.out (by have := HGG.out; omega)).cell 1 _ rfl
        have HT1 := Lib.hid (rowT_null cols row k (by rw [HRV.out]; exact hkv) nm HF.out (1 + (o6 : Int)) (vt, vi, vs) true ⟨by omega, by omega⟩)
        have HT7 := Lib.hid (rowT_isNull cols row k (by rw [HRV.out]; exact hkv) nm HF.out (vt, vi, vs) true)
        have HT8 := Lib.hid (rowT_notNull cols row k (by rw [HRV.out]; exact hkv) nm HF.out (vt, vi, vs) true)
        clear hnt
        have t0 := HG.out.cell 0 _ rfl
        have t1 := HG.out.cell 1 _ rfl
        have t2 := HG.out.cell 2 _ rfl
        have t3 := HG.out.cell 3 _ rfl
        have t4 := HG.out.cell 4 _ rfl
        have t5 := HG.out.cell 5 _ rfl
        have t6 := HG.out.cell 6 _ rfl
        obtain ⟨ly0, hly0⟩ : ∃ x, (wd_1).heap.size = x := ⟨_, rfl⟩
        obtain ⟨y0, hy0⟩ : ∃ x, (wd_1).alloc (.cells (tcs nm (1 + (o6 : Int)) vt vi vs false true) 28) = x := ⟨_, rfl⟩
        have HLY := Lib.hid (show Later wd_1 y0 from hy0 ▸ Later.new _ _)
        have HLT := Lib.hid (show Has y0 (some ⟨ly0, 0, none⟩) (ft [⟨nm, (1 + (o6 : Int)), (vt, vi, vs), false, true⟩]) from (hy0 ▸ Blk.new wd_1 (tcs nm (1 + (o6 : Int)) vt vi vs false true) 28 ly0 hly0.symm : Blk y0 ly0 (tcs nm (1 + (o6 : Int)) vt vi vs false true) 28).has)
        go_wp2_with fail
        clear x1 y1 p1 q1 hwwc1 hwwd_1
        refine (predRow_any (some ⟨vb, voff, none⟩) vn vc vn cols (some ⟨ly0, 0, none⟩) 1 1 [⟨nm, (1 + (o6 : Int)), (vt, vi, vs), false, true⟩] (some ⟨q, 0, none⟩) vn rc (row.set k (0, 0, ⟨#[]⟩)) _ HCL.out.symm (by omega) (HV4.out.far (HFZ.out.later HLY.out)).has rfl (by omega) HLT.out (by rw [List.length_set, HRV.out]) (by omega) (HROW.out.later HLY.out).has).mono ?_
        rintro e z0 ⟨rfl, lz⟩
        rw [HT1.out]
        have LZ := Lib.hid (HLY.out.trans lz)
        have HFZ := Lib.hid (HFZ.out.later LZ.out)
        have HG := Lib.hid (HG.out.later LZ.out)
        have HB15 := Lib.hid (HB15.out.later LZ.out)
        have HB16 := Lib.hid (HB16.out.later LZ.out)
        have HROW := Lib.hid (HROW.out.later LZ.out)
        clear hy0 hly0 t0 t1 t2 t3 t4 t5 t6 s0 s1 lz HLT HLY
        have s0 := (HFZ.out.blk HS4.out (by have := HGG.out; omega)).cell 0 _ rfl
        have s1 := (HFZ.out.blk HS4.out (by have := HGG.out; omega)).cell 1 _ rfl
        have t0 := HB15.out.cell 0 _ rfl
        have t1 := HB15.out.cell 1 _ rfl
        have t2 := HB15.out.cell 2 _ rfl
        have t3 := HB15.out.cell 3 _ rfl
        have t4 := HB15.out.cell 4 _ rfl
        have t5 := HB15.out.cell 5 _ rfl
        have t6 := HB15.out.cell 6 _ rfl
        obtain ⟨ly1, hly1⟩ : ∃ x, (z0).heap.size = x := ⟨_, rfl⟩
        obtain ⟨y1, hy1⟩ : ∃ x, (z0).alloc (.cells (tcs nm 7 vt vi vs false true) 28) = x := ⟨_, rfl⟩
        have HLY := Lib.hid (show Later z0 y1 from hy1 ▸ Later.new _ _)
        have HLT := Lib.hid (show Has y1 (some ⟨ly1, 0, none⟩) (ft [⟨nm, 7, (vt, vi, vs), false, true⟩]) from (hy1 ▸ Blk.new z0 (tcs nm 7 vt vi vs false true) 28 ly1 hly1.symm : Blk y1 ly1 (tcs nm 7 vt vi vs false true) 28).has)
        go_wp2_with fail
        skip
        refine (predRow_any (some ⟨vb, voff, none⟩) vn vc vn cols (some ⟨ly1, 0, none⟩) 1 1 [⟨nm, 7, (vt, vi, vs), false, true⟩] (some ⟨q, 0, none⟩) vn rc (row.set k (0, 0, ⟨#[]⟩)) _ HCL.out.symm (by omega) (HV4.out.far (HFZ.out.later HLY.out)).has rfl (by omega) HLT.out (by rw [List.length_set, HRV.out]) (by omega) (HROW.out.later HLY.out).has).mono ?_
        rintro e z1 ⟨rfl, lz⟩
        rw [HT7.out]
        have LZ := Lib.hid (HLY.out.trans lz)
        have HFZ := Lib.hid (HFZ.out.later LZ.out)
        have HG := Lib.hid (HG.out.later LZ.out)
        have HB15 := Lib.hid (HB15.out.later LZ.out)
        have HB16 := Lib.hid (HB16.out.later LZ.out)
        have HROW := Lib.hid (HROW.out.later LZ.out)
        clear hy1 hly1 t0 t1 t2 t3 t4 t5 t6 s0 s1 lz HLT HLY
        have s0 := (HFZ.out.blk HS4.out (by have := HGG.out; omega)).cell 0 _ rfl
        have s1 := (HFZ.out.blk HS4.out (by have := HGG.out; omega)).cell 1 _ rfl
        have t0 := HB16.out.cell 0 _ rfl
        have t1 := HB16.out.cell 1 _ rfl
        have t2 := HB16.out.cell 2 _ rfl
        have t3 := HB16.out.cell 3 _ rfl
        have t4 := HB16.out.cell 4 _ rfl
        have t5 := HB16.out.cell 5 _ rfl
        have t6 := HB16.out.cell 6 _ rfl
        obtain ⟨ly2, hly2⟩ : ∃ x, (z1).heap.size = x := ⟨_, rfl⟩
        obtain ⟨y2, hy2⟩ : ∃ x, (z1).alloc (.cells (tcs nm 8 vt vi vs false true) 28) = x := ⟨_, rfl⟩
        have HLY := Lib.hid (show Later z1 y2 from hy2 ▸ Later.new _ _)
        have HLT := Lib.hid (show Has y2 (some ⟨ly2, 0, none⟩) (ft [⟨nm, 8, (vt, vi, vs), false, true⟩]) from (hy2 ▸ Blk.new z1 (tcs nm 8 vt vi vs false true) 28 ly2 hly2.symm : Blk y2 ly2 (tcs nm 8 vt vi vs false true) 28).has)
        go_wp2_with fail
        skip
        refine (predRow_any (some ⟨vb, voff, none⟩) vn vc vn cols (some ⟨ly2, 0, none⟩) 1 1 [⟨nm, 8, (vt, vi, vs), false, true⟩] (some ⟨q, 0, none⟩) vn rc (row.set k (0, 0, ⟨#[]⟩)) _ HCL.out.symm (by omega) (HV4.out.far (HFZ.out.later HLY.out)).has rfl (by omega) HLT.out (by rw [List.length_set, HRV.out]) (by omega) (HROW.out.later HLY.out).has).mono ?_
        rintro e z2 ⟨rfl, lz⟩
        rw [HT8.out]
        have LZ := Lib.hid (HLY.out.trans lz)
        have HFZ := Lib.hid (HFZ.out.later LZ.out)
        have HG := Lib.hid (HG.out.later LZ.out)
        have HB15 := Lib.hid (HB15.out.later LZ.out)
        have HB16 := Lib.hid (HB16.out.later LZ.out)
        have HROW := Lib.hid (HROW.out.later LZ.out)
        clear hy2 hly2 t0 t1 t2 t3 t4 t5 t6 s0 s1 lz HLT HLY
        have s0 := (HFZ.out.blk HS4.out (by have := HGG.out; omega)).cell 0 _ rfl
        have s1 := (HFZ.out.blk HS4.out (by have := HGG.out; omega)).cell 1 _ rfl
        have t0 := HG.out.cell 0 _ rfl
        have t1 := HG.out.cell 1 _ rfl
        have t2 := HG.out.cell 2 _ rfl
        have t3 := HG.out.cell 3 _ rfl
        have t4 := HG.out.cell 4 _ rfl
        have t5 := HG.out.cell 5 _ rfl
        have t6 := HG.out.cell 6 _ rfl
        obtain ⟨ly3, hly3⟩ : ∃ x, z2.heap.size = x := ⟨_, rfl⟩
        have HLY := Lib.hid ((Later.new z2 (.cells (tcs nm (1 + (o6 : Int)) vt vi vs false true) 28)).alloc (.cells #[] 52))
        have HLT := Lib.hid (((Blk.new z2 (tcs nm (1 + (o6 : Int)) vt vi vs false true) 28 ly3 hly3.symm).later (Later.new _ (.cells #[] 52))).has (cs := ft [⟨nm, (1 + (o6 : Int)), (vt, vi, vs), false, true⟩]))
        go_wp2_with fail
        refine (predRows_any (some ⟨vb, voff, none⟩) vn vc vn cols (some ⟨ly3, 0, none⟩) 1 1 [⟨nm, (1 + (o6 : Int)), (vt, vi, vs), false, true⟩] _ 0 0 [] _ HCL.out.symm (by omega) (HV4.out.far (HFZ.out.later HLY.out)).has rfl (by omega) HLT.out rfl (by omega) ⟨.inl rfl, fun s hs => by cases hs⟩ (fun s hs => by cases hs)).mono ?_
        rintro e z3 ⟨PA, pc, rfl, _, _, _, lz⟩
        have HFZ := Lib.hid ((HFZ.out.later HLY.out).later lz)
        clear hly3 t0 t1 t2 t3 t4 t5 t6 s0 s1 lz HLT HLY
        rw [show (passTo cols [⟨nm, (1 + (o6 : Int)), (vt, vi, vs), false, true⟩] (rowsC (colsOf [])) (rowsC (colsOf [])).length).length = 0 from Nat.le_zero.1 (Nat.le_trans (passTo_len _ _ _ _) (by first | exact Nat.le_refl _ | decide | simp [rowsC, colsOf, heightC]))]
        go_wp2_with fail
        go_ret
        exact ⟨rfl, HL1.out.trans ((HF4.out.trans HFZ.out).out HG0.out.symm HL2.out)⟩
      · have hnt' : nt = false := by simpa using hnt
        subst hnt'
        have s0 := (HFZ.out.blk HS4.out (by have := HGG.out; omega)).cell 0 _ rfl
        have s1 := (HFZ.out.blk HS4.out (by have := HGG.out; omega)).cell 1 _ rfl
        have HT1 := Lib.hid (rowT_null cols row k (by rw [HRV.out]; exact hkv) nm HF.out (1 + (o6 : Int)) (vt, vi, vs) false ⟨by omega, by omega⟩)
        have HT7 := Lib.hid (rowT_isNull cols row k (by rw [HRV.out]; exact hkv) nm HF.out (vt, vi, vs) false)
        have HT8 := Lib.hid (rowT_notNull cols row k (by rw [HRV.out]; exact hkv) nm HF.out (vt, vi, vs) false)
        clear hnt
        have t0 := HG.out.cell 0 _ rfl
        have t1 := HG.out.cell 1 _ rfl
        have t2 := HG.out.cell 2 _ rfl
        have t3 := HG.out.cell 3 _ rfl
        have t4 := HG.out.cell 4 _ rfl
        have t5 := HG.out.cell 5 _ rfl
        have t6 := HG.out.cell 6 _ rfl
        obtain ⟨ly0, hly0⟩ : ∃ x, (wd_1).heap.size = x := ⟨_, rfl⟩
        obtain ⟨y0, hy0⟩ : ∃ x, (wd_1).alloc (.cells (tcs nm (1 + (o6 : Int)) vt vi vs false false) 28) = x := ⟨_, rfl⟩
        have HLY := Lib.hid (show Later wd_1 y0 from hy0 ▸ Later.new _ _)
        have HLT := Lib.hid (show Has y0 (some ⟨ly0, 0, none⟩) (ft [⟨nm, (1 + (o6 : Int)), (vt, vi, vs), false, false⟩]) from (hy0 ▸ Blk.new wd_1 (tcs nm (1 + (o6 : Int)) vt vi vs false false) 28 ly0 hly0.symm : Blk y0 ly0 (tcs nm (1 + (o6 : Int)) vt vi vs false false) 28).has)
        go_wp2_with fail
        clear x1 y1 p1 q1 hwwc1 hwwd_1
        refine (predRow_any (some ⟨vb, voff, none⟩) vn vc vn cols (some ⟨ly0, 0, none⟩) 1 1 [⟨nm, (1 + (o6 : Int)), (vt, vi, vs), false, false⟩] (some ⟨q, 0, none⟩) vn rc (row.set k (0, 0, ⟨#[]⟩)) _ HCL.out.symm (by omega) (HV4.out.far (HFZ.out.later HLY.out)).has rfl (by omega) HLT.out (by rw [List.length_set, HRV.out]) (by omega) (HROW.out.later HLY.out).has).mono ?_
        rintro e z0 ⟨rfl, lz⟩
        rw [HT1.out]
        have LZ := Lib.hid (HLY.out.trans lz)
        have HFZ := Lib.hid (HFZ.out.later LZ.out)
        have HG := Lib.hid (HG.out.later LZ.out)
        have HB15 := Lib.hid (HB15.out.later LZ.out)
        have HB16 := Lib.hid (HB16.out.later LZ.out)
        have HROW := Lib.hid (HROW.out.later LZ.out)
        clear hy0 hly0 t0 t1 t2 t3 t4 t5 t6 s0 s1 lz HLT HLY
        have s0 := (HFZ.out.blk HS4.out (by have := HGG.out; omega)).cell 0 _ rfl
        have s1 := (HFZ.out.blk HS4.out (by have := HGG.out; omega)).cell 1 _ rfl
        have t0 := HB15.out.cell 0 _ rfl
        have t1 := HB15.out.cell 1 _ rfl
        have t2 := HB15.out.cell 2 _ rfl
        have t3 := HB15.out.cell 3 _ rfl
        have t4 := HB15.out.cell 4 _ rfl
        have t5 := HB15.out.cell 5 _ rfl
        have t6 := HB15.out.cell 6 _ rfl
        obtain ⟨ly1, hly1⟩ : ∃ x, (z0).heap.size = x := ⟨_, rfl⟩
        obtain ⟨y1, hy1⟩ : ∃ x, (z0).alloc (.cells (tcs nm 7 vt vi vs false false) 28) = x := ⟨_, rfl⟩
        have HLY := Lib.hid (show Later z0 y1 from hy1 ▸ Later.new _ _)
        have HLT := Lib.hid (show Has y1 (some ⟨ly1, 0, none⟩) (ft [⟨nm, 7, (vt, vi, vs), false, false⟩]) from (hy1 ▸ Blk.new z0 (tcs nm 7 vt vi vs false false) 28 ly1 hly1.symm : Blk y1 ly1 (tcs nm 7 vt vi vs false false) 28).has)
        go_wp2_with fail
        skip
        refine (predRow_any (some ⟨vb, voff, none⟩) vn vc vn cols (some ⟨ly1, 0, none⟩) 1 1 [⟨nm, 7, (vt, vi, vs), false, false⟩] (some ⟨q, 0, none⟩) vn rc (row.set k (0, 0, ⟨#[]⟩)) _ HCL.out.symm (by omega) (HV4.out.far (HFZ.out.later HLY.out)).has rfl (by omega) HLT.out (by rw [List.length_set, HRV.out]) (by omega) (HROW.out.later HLY.out).has).mono ?_
        rintro e z1 ⟨rfl, lz⟩
        rw [HT7.out]
        have LZ := Lib.hid (HLY.out.trans lz)
        have HFZ := Lib.hid (HFZ.out.later LZ.out)
        have HG := Lib.hid (HG.out.later LZ.out)
        have HB15 := Lib.hid (HB15.out.later LZ.out)
        have HB16 := Lib.hid (HB16.out.later LZ.out)
        have HROW := Lib.hid (HROW.out.later LZ.out)
        clear hy1 hly1 t0 t1 t2 t3 t4 t5 t6 s0 s1 lz HLT HLY
        have s0 := (HFZ.out.blk HS4.out (by have := HGG.out; omega)).cell 0 _ rfl
        have s1 := (HFZ.out.blk HS4.out (by have := HGG.out; omega)).cell 1 _ rfl
        have t0 := HB16.out.cell 0 _ rfl
        have t1 := HB16.out.cell 1 _ rfl
        have t2 := HB16.out.cell 2 _ rfl
        have t3 := HB16.out.cell 3 _ rfl
        have t4 := HB16.out.cell 4 _ rfl
        have t5 := HB16.out.cell 5 _ rfl
        have t6 := HB16.out.cell 6 _ rfl
        obtain ⟨ly2, hly2⟩ : ∃ x, (z1).heap.size = x := ⟨_, rfl⟩
        obtain ⟨y2, hy2⟩ : ∃ x, (z1).alloc (.cells (tcs nm 8 vt vi vs false false) 28) = x := ⟨_, rfl⟩
        have HLY := Lib.hid (show Later z1 y2 from hy2 ▸ Later.new _ _)
        have HLT := Lib.hid (show Has y2 (some ⟨ly2, 0, none⟩) (ft [⟨nm, 8, (vt, vi, vs), false, false⟩]) from (hy2 ▸ Blk.new z1 (tcs nm 8 vt vi vs false false) 28 ly2 hly2.symm : Blk y2 ly2 (tcs nm 8 vt vi vs false false) 28).has)
        go_wp2_with fail
        skip
        refine (predRow_any (some ⟨vb, voff, none⟩) vn vc vn cols (some ⟨ly2, 0, none⟩) 1 1 [⟨nm, 8, (vt, vi, vs), false, false⟩] (some ⟨q, 0, none⟩) vn rc (row.set k (0, 0, ⟨#[]⟩)) _ HCL.out.symm (by omega) (HV4.out.far (HFZ.out.later HLY.out)).has rfl (by omega) HLT.out (by rw [List.length_set, HRV.out]) (by omega) (HROW.out.later HLY.out).has).mono ?_
        rintro e z2 ⟨rfl, lz⟩
        rw [HT8.out]
        have LZ := Lib.hid (HLY.out.trans lz)
        have HFZ := Lib.hid (HFZ.out.later LZ.out)
        have HG := Lib.hid (HG.out.later LZ.out)
        have HB15 := Lib.hid (HB15.out.later LZ.out)
        have HB16 := Lib.hid (HB16.out.later LZ.out)
        have HROW := Lib.hid (HROW.out.later LZ.out)
        clear hy2 hly2 t0 t1 t2 t3 t4 t5 t6 s0 s1 lz HLT HLY
        have s0 := (HFZ.out.blk HS4.out (by have := HGG.out; omega)).cell 0 _ rfl
        have s1 := (HFZ.out.blk HS4.out (by have := HGG.out; omega)).cell 1 _ rfl
        have t0 := HG.out.cell 0 _ rfl
        have t1 := HG.out.cell 1 _ rfl
        have t2 := HG.out.cell 2 _ rfl
        have t3 := HG.out.cell 3 _ rfl
        have t4 := HG.out.cell 4 _ rfl
        have t5 := HG.out.cell 5 _ rfl
        have t6 := HG.out.cell 6 _ rfl
        obtain ⟨ly3, hly3⟩ : ∃ x, z2.heap.size = x := ⟨_, rfl⟩
        have HLY := Lib.hid ((Later.new z2 (.cells (tcs nm (1 + (o6 : Int)) vt vi vs false false) 28)).alloc (.cells #[] 52))
        have HLT := Lib.hid (((Blk.new z2 (tcs nm (1 + (o6 : Int)) vt vi vs false false) 28 ly3 hly3.symm).later (Later.new _ (.cells #[] 52))).has (cs := ft [⟨nm, (1 + (o6 : Int)), (vt, vi, vs), false, false⟩]))
        go_wp2_with fail
        refine (predRows_any (some ⟨vb, voff, none⟩) vn vc vn cols (some ⟨ly3, 0, none⟩) 1 1 [⟨nm, (1 + (o6 : Int)), (vt, vi, vs), false, false⟩] _ 0 0 [] _ HCL.out.symm (by omega) (HV4.out.far (HFZ.out.later HLY.out)).has rfl (by omega) HLT.out rfl (by omega) ⟨.inl rfl, fun s hs => by cases hs⟩ (fun s hs => by cases hs)).mono ?_
        rintro e z3 ⟨PA, pc, rfl, _, _, _, lz⟩
        have HFZ := Lib.hid ((HFZ.out.later HLY.out).later lz)
        clear hly3 t0 t1 t2 t3 t4 t5 t6 s0 s1 lz HLT HLY
        rw [show (passTo cols [⟨nm, (1 + (o6 : Int)), (vt, vi, vs), false, false⟩] (rowsC (colsOf [])) (rowsC (colsOf [])).length).length = 0 from Nat.le_zero.1 (Nat.le_trans (passTo_len _ _ _ _) (by first | exact Nat.le_refl _ | decide | simp [rowsC, colsOf, heightC]))]
        go_wp2_with fail
        go_ret
        exact ⟨rfl, HL1.out.trans ((HF4.out.trans HFZ.out).out HG0.out.symm HL2.out)⟩
    · skip
      refine stepZ (o := { dst := some 16, op := _, type := _, pos := _, after := _, guard := _ }) rfl (fun K hK => ?_)
      go_simp
      obtain ⟨b16, hb⟩ : ∃ x, (we).heap.size = x := ⟨_, rfl⟩
      obtain ⟨wl16, hwl⟩ : ∃ x, (we).alloc (.cells #[.string ⟨#[]⟩, .int .i64 0, .int .i64 0, .int .i64 0, .string ⟨#[]⟩, .bool false, .bool false] 28) = x := ⟨_, rfl⟩
      have ll : Later we wl16 := hwl ▸ Later.new _ _
      have n16 : gt < b16 ∧ q < b16 ∧ w4.heap.size ≤ b16 := by rw [← hb]; exact ⟨Blk.lt hS.1, HROW.out.lt HNE.out, Far.size hS.2⟩
      
      have HB16 := Lib.hid (hwl ▸ Blk.new we #[.string ⟨#[]⟩, .int .i64 0, .int .i64 0, .int .i64 0, .string ⟨#[]⟩, .bool false, .bool false] 28 b16 hb.symm)
      
      try rw [hb]
      rw [hwl]
      have HROW := Lib.hid (HROW.out.later ll)
      have hS : (fun W : World => Blk W gt (tcs nm (1 + (o6 : Int)) vt vi vs false nt) 28 ∧ Far g w4 W) wl16 := ⟨Blk.later hS.1 ll, Far.later hS.2 ll⟩
      refine hK _ _ hS ?_
      clear hK hwl ll hb
      (try simp only [Act.put, List.setIfInBounds_toArray, List.set_cons_zero, List.set_cons_succ])
      refine wpAnyZ_all (rs := [2]) (by kernel_rfl) (by simp) (fun i hi => ?_)
      simp only [List.mem_cons, List.not_mem_nil, or_false] at hi
      subst hi
      refine stepZ (o := { dst := some 15, op := _, type := _, pos := _, after := _, guard := _ }) rfl (fun K hK => ?_)
      go_simp
      obtain ⟨b15, hb⟩ : ∃ x, (wl16).heap.size = x := ⟨_, rfl⟩
      obtain ⟨wl15, hwl⟩ : ∃ x, (wl16).alloc (.cells #[.string ⟨#[]⟩, .int .i64 0, .int .i64 0, .int .i64 0, .string ⟨#[]⟩, .bool false, .bool false] 28) = x := ⟨_, rfl⟩
      have ll : Later wl16 wl15 := hwl ▸ Later.new _ _
      have n15 : gt < b15 ∧ q < b15 ∧ w4.heap.size ≤ b15 := by rw [← hb]; exact ⟨Blk.lt hS.1, HROW.out.lt HNE.out, Far.size hS.2⟩
      have n12 : b16 < b15 := by rw [← hb]; exact HB16.out.lt
      have HB15 := Lib.hid (hwl ▸ Blk.new wl16 #[.string ⟨#[]⟩, .int .i64 0, .int .i64 0, .int .i64 0, .string ⟨#[]⟩, .bool false, .bool false] 28 b15 hb.symm)
      have HB16 := Lib.hid (HB16.out.later ll)
      try rw [hb]
      rw [hwl]
      have HROW := Lib.hid (HROW.out.later ll)
      have hS : (fun W : World => Blk W gt (tcs nm (1 + (o6 : Int)) vt vi vs false nt) 28 ∧ Far g w4 W) wl15 := ⟨Blk.later hS.1 ll, Far.later hS.2 ll⟩
      refine hK _ _ hS ?_
      clear hK hwl ll hb
      (try simp only [Act.put, List.setIfInBounds_toArray, List.set_cons_zero, List.set_cons_succ])
      refine wpAnyZ_all (rs := [4]) (by kernel_rfl) (by simp) (fun i hi => ?_)
      simp only [List.mem_cons, List.not_mem_nil, or_false] at hi
      subst hi
      have B := HB15.out
      have O := HB16.out
      have G := hS.1
      have u := Below.refl w4.heap.size wl15
      have x0 := B.cell 0 _ rfl
      have y0 := B.frozen 0
      have B := B.set_ 0 (.string nm)
      have O := Blk.off O (p := ⟨b15, 0, none⟩) (by show b16 ≠ b15; omega) (.string nm)
      have G := Blk.off G (p := ⟨b15, 0, none⟩) (by show gt ≠ b15; omega) (.string nm)
      have u : Below w4.heap.size wl15 ((wl15).setCell ⟨b15, 0, none⟩ (.string nm)) := u.setCell (p := ⟨b15, 0, none⟩) (by show w4.heap.size ≤ b15; omega) _
      have HROW := Lib.hid (HROW.out.off (p := ⟨b15, 0, none⟩) (by show q ≠ b15; omega) (.string nm))
      obtain ⟨wa0, hwwa0⟩ : ∃ x, (wl15).setCell ⟨b15, 0, none⟩ (.string nm) = x := ⟨_, rfl⟩
      rw [hwwa0] at B O G u HROW
      have x1 := B.cell 1 _ rfl
      have y1 := B.frozen 1
      have B := B.set_ 1 (.int .i64 (1 + (o6 : Int)))
      have O := Blk.off O (p := ⟨b15, 1, none⟩) (by show b16 ≠ b15; omega) (.int .i64 (1 + (o6 : Int)))
      have G := Blk.off G (p := ⟨b15, 1, none⟩) (by show gt ≠ b15; omega) (.int .i64 (1 + (o6 : Int)))
      have u : Below w4.heap.size wl15 ((wa0).setCell ⟨b15, 1, none⟩ (.int .i64 (1 + (o6 : Int)))) := u.setCell (p := ⟨b15, 1, none⟩) (by show w4.heap.size ≤ b15; omega) _
      have HROW := Lib.hid (HROW.out.off (p := ⟨b15, 1, none⟩) (by show q ≠ b15; omega) (.int .i64 (1 + (o6 : Int))))
      obtain ⟨wa1, hwwa1⟩ : ∃ x, (wa0).setCell ⟨b15, 1, none⟩ (.int .i64 (1 + (o6 : Int))) = x := ⟨_, rfl⟩
      rw [hwwa1] at B O G u HROW
      have x2 := B.cell 2 _ rfl
      have y2 := B.frozen 2
      have B := B.set_ 2 (.int .i64 vt)
      have O := Blk.off O (p := ⟨b15, 2, none⟩) (by show b16 ≠ b15; omega) (.int .i64 vt)
      have G := Blk.off G (p := ⟨b15, 2, none⟩) (by show gt ≠ b15; omega) (.int .i64 vt)
      have u : Below w4.heap.size wl15 ((wa1).setCell ⟨b15, 2, none⟩ (.int .i64 vt)) := u.setCell (p := ⟨b15, 2, none⟩) (by show w4.heap.size ≤ b15; omega) _
      have HROW := Lib.hid (HROW.out.off (p := ⟨b15, 2, none⟩) (by show q ≠ b15; omega) (.int .i64 vt))
      obtain ⟨wa2, hwwa2⟩ : ∃ x, (wa1).setCell ⟨b15, 2, none⟩ (.int .i64 vt) = x := ⟨_, rfl⟩
      rw [hwwa2] at B O G u HROW
      have x3 := B.cell 3 _ rfl
      have y3 := B.frozen 3
      have B := B.set_ 3 (.int .i64 vi)
      have O := Blk.off O (p := ⟨b15, 3, none⟩) (by show b16 ≠ b15; omega) (.int .i64 vi)
      have G := Blk.off G (p := ⟨b15, 3, none⟩) (by show gt ≠ b15; omega) (.int .i64 vi)
      have u : Below w4.heap.size wl15 ((wa2).setCell ⟨b15, 3, none⟩ (.int .i64 vi)) := u.setCell (p := ⟨b15, 3, none⟩) (by show w4.heap.size ≤ b15; omega) _
      have HROW := Lib.hid (HROW.out.off (p := ⟨b15, 3, none⟩) (by show q ≠ b15; omega) (.int .i64 vi))
      obtain ⟨wa3, hwwa3⟩ : ∃ x, (wa2).setCell ⟨b15, 3, none⟩ (.int .i64 vi) = x := ⟨_, rfl⟩
      rw [hwwa3] at B O G u HROW
      have x4 := B.cell 4 _ rfl
      have y4 := B.frozen 4
      have B := B.set_ 4 (.string vs)
      have O := Blk.off O (p := ⟨b15, 4, none⟩) (by show b16 ≠ b15; omega) (.string vs)
      have G := Blk.off G (p := ⟨b15, 4, none⟩) (by show gt ≠ b15; omega) (.string vs)
      have u : Below w4.heap.size wl15 ((wa3).setCell ⟨b15, 4, none⟩ (.string vs)) := u.setCell (p := ⟨b15, 4, none⟩) (by show w4.heap.size ≤ b15; omega) _
      have HROW := Lib.hid (HROW.out.off (p := ⟨b15, 4, none⟩) (by show q ≠ b15; omega) (.string vs))
      obtain ⟨wa4, hwwa4⟩ : ∃ x, (wa3).setCell ⟨b15, 4, none⟩ (.string vs) = x := ⟨_, rfl⟩
      rw [hwwa4] at B O G u HROW
      have x5 := B.cell 5 _ rfl
      have y5 := B.frozen 5
      have B := B.set_ 5 (.bool false)
      have O := Blk.off O (p := ⟨b15, 5, none⟩) (by show b16 ≠ b15; omega) (.bool false)
      have G := Blk.off G (p := ⟨b15, 5, none⟩) (by show gt ≠ b15; omega) (.bool false)
      have u : Below w4.heap.size wl15 ((wa4).setCell ⟨b15, 5, none⟩ (.bool false)) := u.setCell (p := ⟨b15, 5, none⟩) (by show w4.heap.size ≤ b15; omega) _
      have HROW := Lib.hid (HROW.out.off (p := ⟨b15, 5, none⟩) (by show q ≠ b15; omega) (.bool false))
      obtain ⟨wa5, hwwa5⟩ : ∃ x, (wa4).setCell ⟨b15, 5, none⟩ (.bool false) = x := ⟨_, rfl⟩
      rw [hwwa5] at B O G u HROW
      have x6 := B.cell 6 _ rfl
      have y6 := B.frozen 6
      have B := B.set_ 6 (.bool nt)
      have O := Blk.off O (p := ⟨b15, 6, none⟩) (by show b16 ≠ b15; omega) (.bool nt)
      have G := Blk.off G (p := ⟨b15, 6, none⟩) (by show gt ≠ b15; omega) (.bool nt)
      have u : Below w4.heap.size wl15 ((wa5).setCell ⟨b15, 6, none⟩ (.bool nt)) := u.setCell (p := ⟨b15, 6, none⟩) (by show w4.heap.size ≤ b15; omega) _
      have HROW := Lib.hid (HROW.out.off (p := ⟨b15, 6, none⟩) (by show q ≠ b15; omega) (.bool nt))
      obtain ⟨wa6, hwwa6⟩ : ∃ x, (wa5).setCell ⟨b15, 6, none⟩ (.bool nt) = x := ⟨_, rfl⟩
      rw [hwwa6] at B O G u HROW
      refine stepZ (o := { dst := none, op := _, type := _, pos := _, after := _, guard := _ }) rfl (fun K hK => ?_)
      go_simp
      have hS : (fun W : World => Blk W gt (tcs nm (1 + (o6 : Int)) vt vi vs false nt) 28 ∧ Far g w4 W) wa6 := ⟨G, Far.below hS.2 u⟩
      refine hK _ _ hS ?_
      have HB15 := Lib.hid (show Blk wa6 b15 (tcs nm (1 + (o6 : Int)) vt vi vs false nt) 28 from B)
      have HB16 := Lib.hid O
      clear hK B O G u x0 y0 hwwa0 x1 y1 hwwa1 x2 y2 hwwa2 x3 y3 hwwa3 x4 y4 hwwa4 x5 y5 hwwa5 x6 y6 hwwa6
      (try simp only [Act.put, List.setIfInBounds_toArray, List.set_cons_zero, List.set_cons_succ])
      refine wpAnyZ_all (rs := [5]) (by kernel_rfl) (by simp) (fun i hi => ?_)
      simp only [List.mem_cons, List.not_mem_nil, or_false] at hi
      subst hi
      have B := HB16.out
      have O := HB15.out
      have G := hS.1
      have u := Below.refl w4.heap.size wa6
      have x0 := B.cell 0 _ rfl
      have y0 := B.frozen 0
      have B := B.set_ 0 (.string nm)
      have O := Blk.off O (p := ⟨b16, 0, none⟩) (by show b15 ≠ b16; omega) (.string nm)
      have G := Blk.off G (p := ⟨b16, 0, none⟩) (by show gt ≠ b16; omega) (.string nm)
      have u : Below w4.heap.size wa6 ((wa6).setCell ⟨b16, 0, none⟩ (.string nm)) := u.setCell (p := ⟨b16, 0, none⟩) (by show w4.heap.size ≤ b16; omega) _
      have HROW := Lib.hid (HROW.out.off (p := ⟨b16, 0, none⟩) (by show q ≠ b16; omega) (.string nm))
      obtain ⟨wb0, hwwb0⟩ : ∃ x, (wa6).setCell ⟨b16, 0, none⟩ (.string nm) = x := ⟨_, rfl⟩
      rw [hwwb0] at B O G u HROW
      have x1 := B.cell 1 _ rfl
      have y1 := B.frozen 1
      have B := B.set_ 1 (.int .i64 (1 + (o6 : Int)))
      have O := Blk.off O (p := ⟨b16, 1, none⟩) (by show b15 ≠ b16; omega) (.int .i64 (1 + (o6 : Int)))
      have G := Blk.off G (p := ⟨b16, 1, none⟩) (by show gt ≠ b16; omega) (.int .i64 (1 + (o6 : Int)))
      have u : Below w4.heap.size wa6 ((wb0).setCell ⟨b16, 1, none⟩ (.int .i64 (1 + (o6 : Int)))) := u.setCell (p := ⟨b16, 1, none⟩) (by show w4.heap.size ≤ b16; omega) _
      have HROW := Lib.hid (HROW.out.off (p := ⟨b16, 1, none⟩) (by show q ≠ b16; omega) (.int .i64 (1 + (o6 : Int))))
      obtain ⟨wb1, hwwb1⟩ : ∃ x, (wb0).setCell ⟨b16, 1, none⟩ (.int .i64 (1 + (o6 : Int))) = x := ⟨_, rfl⟩
      rw [hwwb1] at B O G u HROW
      have x2 := B.cell 2 _ rfl
      have y2 := B.frozen 2
      have B := B.set_ 2 (.int .i64 vt)
      have O := Blk.off O (p := ⟨b16, 2, none⟩) (by show b15 ≠ b16; omega) (.int .i64 vt)
      have G := Blk.off G (p := ⟨b16, 2, none⟩) (by show gt ≠ b16; omega) (.int .i64 vt)
      have u : Below w4.heap.size wa6 ((wb1).setCell ⟨b16, 2, none⟩ (.int .i64 vt)) := u.setCell (p := ⟨b16, 2, none⟩) (by show w4.heap.size ≤ b16; omega) _
      have HROW := Lib.hid (HROW.out.off (p := ⟨b16, 2, none⟩) (by show q ≠ b16; omega) (.int .i64 vt))
      obtain ⟨wb2, hwwb2⟩ : ∃ x, (wb1).setCell ⟨b16, 2, none⟩ (.int .i64 vt) = x := ⟨_, rfl⟩
      rw [hwwb2] at B O G u HROW
      have x3 := B.cell 3 _ rfl
      have y3 := B.frozen 3
      have B := B.set_ 3 (.int .i64 vi)
      have O := Blk.off O (p := ⟨b16, 3, none⟩) (by show b15 ≠ b16; omega) (.int .i64 vi)
      have G := Blk.off G (p := ⟨b16, 3, none⟩) (by show gt ≠ b16; omega) (.int .i64 vi)
      have u : Below w4.heap.size wa6 ((wb2).setCell ⟨b16, 3, none⟩ (.int .i64 vi)) := u.setCell (p := ⟨b16, 3, none⟩) (by show w4.heap.size ≤ b16; omega) _
      have HROW := Lib.hid (HROW.out.off (p := ⟨b16, 3, none⟩) (by show q ≠ b16; omega) (.int .i64 vi))
      obtain ⟨wb3, hwwb3⟩ : ∃ x, (wb2).setCell ⟨b16, 3, none⟩ (.int .i64 vi) = x := ⟨_, rfl⟩
      rw [hwwb3] at B O G u HROW
      have x4 := B.cell 4 _ rfl
      have y4 := B.frozen 4
      have B := B.set_ 4 (.string vs)
      have O := Blk.off O (p := ⟨b16, 4, none⟩) (by show b15 ≠ b16; omega) (.string vs)
      have G := Blk.off G (p := ⟨b16, 4, none⟩) (by show gt ≠ b16; omega) (.string vs)
      have u : Below w4.heap.size wa6 ((wb3).setCell ⟨b16, 4, none⟩ (.string vs)) := u.setCell (p := ⟨b16, 4, none⟩) (by show w4.heap.size ≤ b16; omega) _
      have HROW := Lib.hid (HROW.out.off (p := ⟨b16, 4, none⟩) (by show q ≠ b16; omega) (.string vs))
      obtain ⟨wb4, hwwb4⟩ : ∃ x, (wb3).setCell ⟨b16, 4, none⟩ (.string vs) = x := ⟨_, rfl⟩
      rw [hwwb4] at B O G u HROW
      have x5 := B.cell 5 _ rfl
      have y5 := B.frozen 5
      have B := B.set_ 5 (.bool false)
      have O := Blk.off O (p := ⟨b16, 5, none⟩) (by show b15 ≠ b16; omega) (.bool false)
      have G := Blk.off G (p := ⟨b16, 5, none⟩) (by show gt ≠ b16; omega) (.bool false)
      have u : Below w4.heap.size wa6 ((wb4).setCell ⟨b16, 5, none⟩ (.bool false)) := u.setCell (p := ⟨b16, 5, none⟩) (by show w4.heap.size ≤ b16; omega) _
      have HROW := Lib.hid (HROW.out.off (p := ⟨b16, 5, none⟩) (by show q ≠ b16; omega) (.bool false))
      obtain ⟨wb5, hwwb5⟩ : ∃ x, (wb4).setCell ⟨b16, 5, none⟩ (.bool false) = x := ⟨_, rfl⟩
      rw [hwwb5] at B O G u HROW
      have x6 := B.cell 6 _ rfl
      have y6 := B.frozen 6
      have B := B.set_ 6 (.bool nt)
      have O := Blk.off O (p := ⟨b16, 6, none⟩) (by show b15 ≠ b16; omega) (.bool nt)
      have G := Blk.off G (p := ⟨b16, 6, none⟩) (by show gt ≠ b16; omega) (.bool nt)
      have u : Below w4.heap.size wa6 ((wb5).setCell ⟨b16, 6, none⟩ (.bool nt)) := u.setCell (p := ⟨b16, 6, none⟩) (by show w4.heap.size ≤ b16; omega) _
      have HROW := Lib.hid (HROW.out.off (p := ⟨b16, 6, none⟩) (by show q ≠ b16; omega) (.bool nt))
      obtain ⟨wb6, hwwb6⟩ : ∃ x, (wb5).setCell ⟨b16, 6, none⟩ (.bool nt) = x := ⟨_, rfl⟩
      rw [hwwb6] at B O G u HROW
      refine stepZl (o := { dst := none, op := _, type := _, pos := _, after := _, guard := _ }) rfl (fun K hK => ?_)
      go_simp
      refine hK _ _ ?_
      have hS : (fun W : World => Blk W gt (tcs nm (1 + (o6 : Int)) vt vi vs false nt) 28 ∧ Far g w4 W) wb6 := ⟨G, Far.below hS.2 u⟩
      have HB16 := Lib.hid (show Blk wb6 b16 (tcs nm (1 + (o6 : Int)) vt vi vs false nt) 28 from B)
      have HB15 := Lib.hid O
      clear hK B O G u x0 y0 hwwb0 x1 y1 hwwb1 x2 y2 hwwb2 x3 y3 hwwb3 x4 y4 hwwb4 x5 y5 hwwb5 x6 y6 hwwb6
      (try simp only [Act.put, List.setIfInBounds_toArray, List.set_cons_zero, List.set_cons_succ])
      refine wpAnyZ_done (by kernel_rfl) ?_ _
      have B := HB15.out
      have O := HB16.out
      have G := hS.1
      have u := Below.refl w4.heap.size wb6
      have x1 := B.cell 1 _ rfl
      have y1 := B.frozen 1
      have B := B.set_ 1 (.int .i64 7)
      have O := Blk.off O (p := ⟨b15, 1, none⟩) (by show b16 ≠ b15; omega) (.int .i64 7)
      have G := Blk.off G (p := ⟨b15, 1, none⟩) (by show gt ≠ b15; omega) (.int .i64 7)
      have u : Below w4.heap.size wb6 ((wb6).setCell ⟨b15, 1, none⟩ (.int .i64 7)) := u.setCell (p := ⟨b15, 1, none⟩) (by show w4.heap.size ≤ b15; omega) _
      have HROW := Lib.hid (HROW.out.off (p := ⟨b15, 1, none⟩) (by show q ≠ b15; omega) (.int .i64 7))
      obtain ⟨wc1, hwwc1⟩ : ∃ x, (wb6).setCell ⟨b15, 1, none⟩ (.int .i64 7) = x := ⟨_, rfl⟩
      rw [hwwc1] at B O G u HROW
      have HB15 := Lib.hid (show Blk wc1 b15 (tcs nm 7 vt vi vs false nt) 28 from B)
      have HB16 := Lib.hid O
      have hS : (fun W : World => Blk W gt (tcs nm (1 + (o6 : Int)) vt vi vs false nt) 28 ∧ Far g w4 W) wc1 := ⟨G, Far.below hS.2 u⟩
      have p1 := x1
      have q1 := y1
      clear B O G u x1 y1
      have B := HB16.out
      have O := HB15.out
      have G := hS.1
      have u := Below.refl w4.heap.size wc1
      have x1 := B.cell 1 _ rfl
      have y1 := B.frozen 1
      have B := B.set_ 1 (.int .i64 8)
      have O := Blk.off O (p := ⟨b16, 1, none⟩) (by show b15 ≠ b16; omega) (.int .i64 8)
      have G := Blk.off G (p := ⟨b16, 1, none⟩) (by show gt ≠ b16; omega) (.int .i64 8)
      have u : Below w4.heap.size wc1 ((wc1).setCell ⟨b16, 1, none⟩ (.int .i64 8)) := u.setCell (p := ⟨b16, 1, none⟩) (by show w4.heap.size ≤ b16; omega) _
      have HROW := Lib.hid (HROW.out.off (p := ⟨b16, 1, none⟩) (by show q ≠ b16; omega) (.int .i64 8))
      obtain ⟨wd_1, hwwd_1⟩ : ∃ x, (wc1).setCell ⟨b16, 1, none⟩ (.int .i64 8) = x := ⟨_, rfl⟩
      rw [hwwd_1] at B O G u HROW
      have HB16 := Lib.hid (show Blk wd_1 b16 (tcs nm 8 vt vi vs false nt) 28 from B)
      have HB15 := Lib.hid O
      have HG := Lib.hid G
      have HFZ := Lib.hid (Far.below hS.2 u)
      clear B O G u hS
      have HNT := Lib.hid (Eq.refl nt)
      by_cases hnt : nt = true
      · have hnt' : nt = true := by simpa using hnt
        subst hnt'
        have s0 := (HFZ.out.blk HS4.out (by have := HGG.out; omega)).cell 0 _ rfl
        have s1 := (HFZ.out.blk HS4.out (by have := HGG.out; omega)).cell 1 _ rfl
        have HT1 := Lib.hid (rowT_null cols row k (by rw [HRV.out]; exact hkv) nm HF.out (1 + (o6 : Int)) (vt, vi, vs) true ⟨by omega, by omega⟩)
        have HT7 := Lib.hid (rowT_isNull cols row k (by rw [HRV.out]; exact hkv) nm HF.out (vt, vi, vs) true)
        have HT8 := Lib.hid (rowT_notNull cols row k (by rw [HRV.out]; exact hkv) nm HF.out (vt, vi, vs) true)
        clear hnt
        have t0 := HG.out.cell 0 _ rfl
        have t1 := HG.out.cell 1 _ rfl
        have t2 := HG.out.cell 2 _ rfl
        have t3 := HG.out.cell 3 _ rfl
        have t4 := HG.out.cell 4 _ rfl
        have t5 := HG.out.cell 5 _ rfl
        have t6 := HG.out.cell 6 _ rfl
        obtain ⟨ly0, hly0⟩ : ∃ x, (wd_1).heap.size = x := ⟨_, rfl⟩
        obtain ⟨y0, hy0⟩ : ∃ x, (wd_1).alloc (.cells (tcs nm (1 + (o6 : Int)) vt vi vs false true) 28) = x := ⟨_, rfl⟩
        have HLY := Lib.hid (show Later wd_1 y0 from hy0 ▸ Later.new _ _)
        have HLT := Lib.hid (show Has y0 (some ⟨ly0, 0, none⟩) (ft [⟨nm, (1 + (o6 : Int)), (vt, vi, vs), false, true⟩]) from (hy0 ▸ Blk.new wd_1 (tcs nm (1 + (o6 : Int)) vt vi vs false true) 28 ly0 hly0.symm : Blk y0 ly0 (tcs nm (1 + (o6 : Int)) vt vi vs false true) 28).has)
        go_wp2_with fail
        clear x1 y1 p1 q1 hwwc1 hwwd_1
        refine (predRow_any (some ⟨vb, voff, none⟩) vn vc vn cols (some ⟨ly0, 0, none⟩) 1 1 [⟨nm, (1 + (o6 : Int)), (vt, vi, vs), false, true⟩] (some ⟨q, 0, none⟩) vn rc (row.set k (0, 0, ⟨#[]⟩)) _ HCL.out.symm (by omega) (HV4.out.far (HFZ.out.later HLY.out)).has rfl (by omega) HLT.out (by rw [List.length_set, HRV.out]) (by omega) (HROW.out.later HLY.out).has).mono ?_
        rintro e z0 ⟨rfl, lz⟩
        rw [HT1.out]
        have LZ := Lib.hid (HLY.out.trans lz)
        have HFZ := Lib.hid (HFZ.out.later LZ.out)
        have HG := Lib.hid (HG.out.later LZ.out)
        have HB15 := Lib.hid (HB15.out.later LZ.out)
        have HB16 := Lib.hid (HB16.out.later LZ.out)
        have HROW := Lib.hid (HROW.out.later LZ.out)
        clear hy0 hly0 t0 t1 t2 t3 t4 t5 t6 s0 s1 lz HLT HLY
        have s0 := (HFZ.out.blk HS4.out (by have := HGG.out; omega)).cell 0 _ rfl
        have s1 := (HFZ.out.blk HS4.out (by have := HGG.out; omega)).cell 1 _ rfl
        have t0 := HB15.out.cell 0 _ rfl
        have t1 := HB15.out.cell 1 _ rfl
        have t2 := HB15.out.cell 2 _ rfl
        have t3 := HB15.out.cell 3 _ rfl
        have t4 := HB15.out.cell 4 _ rfl
        have t5 := HB15.out.cell 5 _ rfl
        have t6 := HB15.out.cell 6 _ rfl
        obtain ⟨ly1, hly1⟩ : ∃ x, (z0).heap.size = x := ⟨_, rfl⟩
        obtain ⟨y1, hy1⟩ : ∃ x, (z0).alloc (.cells (tcs nm 7 vt vi vs false true) 28) = x := ⟨_, rfl⟩
        have HLY := Lib.hid (show Later z0 y1 from hy1 ▸ Later.new _ _)
        have HLT := Lib.hid (show Has y1 (some ⟨ly1, 0, none⟩) (ft [⟨nm, 7, (vt, vi, vs), false, true⟩]) from (hy1 ▸ Blk.new z0 (tcs nm 7 vt vi vs false true) 28 ly1 hly1.symm : Blk y1 ly1 (tcs nm 7 vt vi vs false true) 28).has)
        go_wp2_with fail
        skip
        refine (predRow_any (some ⟨vb, voff, none⟩) vn vc vn cols (some ⟨ly1, 0, none⟩) 1 1 [⟨nm, 7, (vt, vi, vs), false, true⟩] (some ⟨q, 0, none⟩) vn rc (row.set k (0, 0, ⟨#[]⟩)) _ HCL.out.symm (by omega) (HV4.out.far (HFZ.out.later HLY.out)).has rfl (by omega) HLT.out (by rw [List.length_set, HRV.out]) (by omega) (HROW.out.later HLY.out).has).mono ?_
        rintro e z1 ⟨rfl, lz⟩
        rw [HT7.out]
        have LZ := Lib.hid (HLY.out.trans lz)
        have HFZ := Lib.hid (HFZ.out.later LZ.out)
        have HG := Lib.hid (HG.out.later LZ.out)
        have HB15 := Lib.hid (HB15.out.later LZ.out)
        have HB16 := Lib.hid (HB16.out.later LZ.out)
        have HROW := Lib.hid (HROW.out.later LZ.out)
        clear hy1 hly1 t0 t1 t2 t3 t4 t5 t6 s0 s1 lz HLT HLY
        have s0 := (HFZ.out.blk HS4.out (by have := HGG.out; omega)).cell 0 _ rfl
        have s1 := (HFZ.out.blk HS4.out (by have := HGG.out; omega)).cell 1 _ rfl
        have t0 := HB16.out.cell 0 _ rfl
        have t1 := HB16.out.cell 1 _ rfl
        have t2 := HB16.out.cell 2 _ rfl
        have t3 := HB16.out.cell 3 _ rfl
        have t4 := HB16.out.cell 4 _ rfl
        have t5 := HB16.out.cell 5 _ rfl
        have t6 := HB16.out.cell 6 _ rfl
        obtain ⟨ly2, hly2⟩ : ∃ x, (z1).heap.size = x := ⟨_, rfl⟩
        obtain ⟨y2, hy2⟩ : ∃ x, (z1).alloc (.cells (tcs nm 8 vt vi vs false true) 28) = x := ⟨_, rfl⟩
        have HLY := Lib.hid (show Later z1 y2 from hy2 ▸ Later.new _ _)
        have HLT := Lib.hid (show Has y2 (some ⟨ly2, 0, none⟩) (ft [⟨nm, 8, (vt, vi, vs), false, true⟩]) from (hy2 ▸ Blk.new z1 (tcs nm 8 vt vi vs false true) 28 ly2 hly2.symm : Blk y2 ly2 (tcs nm 8 vt vi vs false true) 28).has)
        go_wp2_with fail
        skip
        refine (predRow_any (some ⟨vb, voff, none⟩) vn vc vn cols (some ⟨ly2, 0, none⟩) 1 1 [⟨nm, 8, (vt, vi, vs), false, true⟩] (some ⟨q, 0, none⟩) vn rc (row.set k (0, 0, ⟨#[]⟩)) _ HCL.out.symm (by omega) (HV4.out.far (HFZ.out.later HLY.out)).has rfl (by omega) HLT.out (by rw [List.length_set, HRV.out]) (by omega) (HROW.out.later HLY.out).has).mono ?_
        rintro e z2 ⟨rfl, lz⟩
        rw [HT8.out]
        have LZ := Lib.hid (HLY.out.trans lz)
        have HFZ := Lib.hid (HFZ.out.later LZ.out)
        have HG := Lib.hid (HG.out.later LZ.out)
        have HB15 := Lib.hid (HB15.out.later LZ.out)
        have HB16 := Lib.hid (HB16.out.later LZ.out)
        have HROW := Lib.hid (HROW.out.later LZ.out)
        clear hy2 hly2 t0 t1 t2 t3 t4 t5 t6 s0 s1 lz HLT HLY
        have s0 := (HFZ.out.blk HS4.out (by have := HGG.out; omega)).cell 0 _ rfl
        have s1 := (HFZ.out.blk HS4.out (by have := HGG.out; omega)).cell 1 _ rfl
        have t0 := HG.out.cell 0 _ rfl
        have t1 := HG.out.cell 1 _ rfl
        have t2 := HG.out.cell 2 _ rfl
        have t3 := HG.out.cell 3 _ rfl
        have t4 := HG.out.cell 4 _ rfl
        have t5 := HG.out.cell 5 _ rfl
        have t6 := HG.out.cell 6 _ rfl
        obtain ⟨ly3, hly3⟩ : ∃ x, z2.heap.size = x := ⟨_, rfl⟩
        have HLY := Lib.hid ((Later.new z2 (.cells (tcs nm (1 + (o6 : Int)) vt vi vs false true) 28)).alloc (.cells #[] 52))
        have HLT := Lib.hid (((Blk.new z2 (tcs nm (1 + (o6 : Int)) vt vi vs false true) 28 ly3 hly3.symm).later (Later.new _ (.cells #[] 52))).has (cs := ft [⟨nm, (1 + (o6 : Int)), (vt, vi, vs), false, true⟩]))
        go_wp2_with fail
        refine (predRows_any (some ⟨vb, voff, none⟩) vn vc vn cols (some ⟨ly3, 0, none⟩) 1 1 [⟨nm, (1 + (o6 : Int)), (vt, vi, vs), false, true⟩] _ 0 0 [] _ HCL.out.symm (by omega) (HV4.out.far (HFZ.out.later HLY.out)).has rfl (by omega) HLT.out rfl (by omega) ⟨.inl rfl, fun s hs => by cases hs⟩ (fun s hs => by cases hs)).mono ?_
        rintro e z3 ⟨PA, pc, rfl, _, _, _, lz⟩
        have HFZ := Lib.hid ((HFZ.out.later HLY.out).later lz)
        clear hly3 t0 t1 t2 t3 t4 t5 t6 s0 s1 lz HLT HLY
        rw [show (passTo cols [⟨nm, (1 + (o6 : Int)), (vt, vi, vs), false, true⟩] (rowsC (colsOf [])) (rowsC (colsOf [])).length).length = 0 from Nat.le_zero.1 (Nat.le_trans (passTo_len _ _ _ _) (by first | exact Nat.le_refl _ | decide | simp [rowsC, colsOf, heightC]))]
        go_wp2_with fail
        go_ret
        exact ⟨rfl, HL1.out.trans ((HF4.out.trans HFZ.out).out HG0.out.symm HL2.out)⟩
      · have hnt' : nt = false := by simpa using hnt
        subst hnt'
        have s0 := (HFZ.out.blk HS4.out (by have := HGG.out; omega)).cell 0 _ rfl
        have s1 := (HFZ.out.blk HS4.out (by have := HGG.out; omega)).cell 1 _ rfl
        have HT1 := Lib.hid (rowT_null cols row k (by rw [HRV.out]; exact hkv) nm HF.out (1 + (o6 : Int)) (vt, vi, vs) false ⟨by omega, by omega⟩)
        have HT7 := Lib.hid (rowT_isNull cols row k (by rw [HRV.out]; exact hkv) nm HF.out (vt, vi, vs) false)
        have HT8 := Lib.hid (rowT_notNull cols row k (by rw [HRV.out]; exact hkv) nm HF.out (vt, vi, vs) false)
        clear hnt
        have t0 := HG.out.cell 0 _ rfl
        have t1 := HG.out.cell 1 _ rfl
        have t2 := HG.out.cell 2 _ rfl
        have t3 := HG.out.cell 3 _ rfl
        have t4 := HG.out.cell 4 _ rfl
        have t5 := HG.out.cell 5 _ rfl
        have t6 := HG.out.cell 6 _ rfl
        obtain ⟨ly0, hly0⟩ : ∃ x, (wd_1).heap.size = x := ⟨_, rfl⟩
        obtain ⟨y0, hy0⟩ : ∃ x, (wd_1).alloc (.cells (tcs nm (1 + (o6 : Int)) vt vi vs false false) 28) = x := ⟨_, rfl⟩
        have HLY := Lib.hid (show Later wd_1 y0 from hy0 ▸ Later.new _ _)
        have HLT := Lib.hid (show Has y0 (some ⟨ly0, 0, none⟩) (ft [⟨nm, (1 + (o6 : Int)), (vt, vi, vs), false, false⟩]) from (hy0 ▸ Blk.new wd_1 (tcs nm (1 + (o6 : Int)) vt vi vs false false) 28 ly0 hly0.symm : Blk y0 ly0 (tcs nm (1 + (o6 : Int)) vt vi vs false false) 28).has)
        go_wp2_with fail
        clear x1 y1 p1 q1 hwwc1 hwwd_1
        refine (predRow_any (some ⟨vb, voff, none⟩) vn vc vn cols (some ⟨ly0, 0, none⟩) 1 1 [⟨nm, (1 + (o6 : Int)), (vt, vi, vs), false, false⟩] (some ⟨q, 0, none⟩) vn rc (row.set k (0, 0, ⟨#[]⟩)) _ HCL.out.symm (by omega) (HV4.out.far (HFZ.out.later HLY.out)).has rfl (by omega) HLT.out (by rw [List.length_set, HRV.out]) (by omega) (HROW.out.later HLY.out).has).mono ?_
        rintro e z0 ⟨rfl, lz⟩
        rw [HT1.out]
        have LZ := Lib.hid (HLY.out.trans lz)
        have HFZ := Lib.hid (HFZ.out.later LZ.out)
        have HG := Lib.hid (HG.out.later LZ.out)
        have HB15 := Lib.hid (HB15.out.later LZ.out)
        have HB16 := Lib.hid (HB16.out.later LZ.out)
        have HROW := Lib.hid (HROW.out.later LZ.out)
        clear hy0 hly0 t0 t1 t2 t3 t4 t5 t6 s0 s1 lz HLT HLY
        have s0 := (HFZ.out.blk HS4.out (by have := HGG.out; omega)).cell 0 _ rfl
        have s1 := (HFZ.out.blk HS4.out (by have := HGG.out; omega)).cell 1 _ rfl
        have t0 := HB15.out.cell 0 _ rfl
        have t1 := HB15.out.cell 1 _ rfl
        have t2 := HB15.out.cell 2 _ rfl
        have t3 := HB15.out.cell 3 _ rfl
        have t4 := HB15.out.cell 4 _ rfl
        have t5 := HB15.out.cell 5 _ rfl
        have t6 := HB15.out.cell 6 _ rfl
        obtain ⟨ly1, hly1⟩ : ∃ x, (z0).heap.size = x := ⟨_, rfl⟩
        obtain ⟨y1, hy1⟩ : ∃ x, (z0).alloc (.cells (tcs nm 7 vt vi vs false false) 28) = x := ⟨_, rfl⟩
        have HLY := Lib.hid (show Later z0 y1 from hy1 ▸ Later.new _ _)
        have HLT := Lib.hid (show Has y1 (some ⟨ly1, 0, none⟩) (ft [⟨nm, 7, (vt, vi, vs), false, false⟩]) from (hy1 ▸ Blk.new z0 (tcs nm 7 vt vi vs false false) 28 ly1 hly1.symm : Blk y1 ly1 (tcs nm 7 vt vi vs false false) 28).has)
        go_wp2_with fail
        skip
        refine (predRow_any (some ⟨vb, voff, none⟩) vn vc vn cols (some ⟨ly1, 0, none⟩) 1 1 [⟨nm, 7, (vt, vi, vs), false, false⟩] (some ⟨q, 0, none⟩) vn rc (row.set k (0, 0, ⟨#[]⟩)) _ HCL.out.symm (by omega) (HV4.out.far (HFZ.out.later HLY.out)).has rfl (by omega) HLT.out (by rw [List.length_set, HRV.out]) (by omega) (HROW.out.later HLY.out).has).mono ?_
        rintro e z1 ⟨rfl, lz⟩
        rw [HT7.out]
        have LZ := Lib.hid (HLY.out.trans lz)
        have HFZ := Lib.hid (HFZ.out.later LZ.out)
        have HG := Lib.hid (HG.out.later LZ.out)
        have HB15 := Lib.hid (HB15.out.later LZ.out)
        have HB16 := Lib.hid (HB16.out.later LZ.out)
        have HROW := Lib.hid (HROW.out.later LZ.out)
        clear hy1 hly1 t0 t1 t2 t3 t4 t5 t6 s0 s1 lz HLT HLY
        have s0 := (HFZ.out.blk HS4.out (by have := HGG.out; omega)).cell 0 _ rfl
        have s1 := (HFZ.out.blk HS4.out (by have := HGG.out; omega)).cell 1 _ rfl
        have t0 := HB16.out.cell 0 _ rfl
        have t1 := HB16.out.cell 1 _ rfl
        have t2 := HB16.out.cell 2 _ rfl
        have t3 := HB16.out.cell 3 _ rfl
        have t4 := HB16.out.cell 4 _ rfl
        have t5 := HB16.out.cell 5 _ rfl
        have t6 := HB16.out.cell 6 _ rfl
        obtain ⟨ly2, hly2⟩ : ∃ x, (z1).heap.size = x := ⟨_, rfl⟩
        obtain ⟨y2, hy2⟩ : ∃ x, (z1).alloc (.cells (tcs nm 8 vt vi vs false false) 28) = x := ⟨_, rfl⟩
        have HLY := Lib.hid (show Later z1 y2 from hy2 ▸ Later.new _ _)
        have HLT := Lib.hid (show Has y2 (some ⟨ly2, 0, none⟩) (ft [⟨nm, 8, (vt, vi, vs), false, false⟩]) from (hy2 ▸ Blk.new z1 (tcs nm 8 vt vi vs false false) 28 ly2 hly2.symm : Blk y2 ly2 (tcs nm 8 vt vi vs false false) 28).has)
        go_wp2_with fail
        skip
        refine (predRow_any (some ⟨vb, voff, none⟩) vn vc vn cols (some ⟨ly2, 0, none⟩) 1 1 [⟨nm, 8, (vt, vi, vs), false, false⟩] (some ⟨q, 0, none⟩) vn rc (row.set k (0, 0, ⟨#[]⟩)) _ HCL.out.symm (by omega) (HV4.out.far (HFZ.out.later HLY.out)).has rfl (by omega) HLT.out (by rw [List.length_set, HRV.out]) (by omega) (HROW.out.later HLY.out).has).mono ?_
        rintro e z2 ⟨rfl, lz⟩
        rw [HT8.out]
        have LZ := Lib.hid (HLY.out.trans lz)
        have HFZ := Lib.hid (HFZ.out.later LZ.out)
        have HG := Lib.hid (HG.out.later LZ.out)
        have HB15 := Lib.hid (HB15.out.later LZ.out)
        have HB16 := Lib.hid (HB16.out.later LZ.out)
        have HROW := Lib.hid (HROW.out.later LZ.out)
        clear hy2 hly2 t0 t1 t2 t3 t4 t5 t6 s0 s1 lz HLT HLY
        have s0 := (HFZ.out.blk HS4.out (by have := HGG.out; omega)).cell 0 _ rfl
        have s1 := (HFZ.out.blk HS4.out (by have := HGG.out; omega)).cell 1 _ rfl
        have t0 := HG.out.cell 0 _ rfl
        have t1 := HG.out.cell 1 _ rfl
        have t2 := HG.out.cell 2 _ rfl
        have t3 := HG.out.cell 3 _ rfl
        have t4 := HG.out.cell 4 _ rfl
        have t5 := HG.out.cell 5 _ rfl
        have t6 := HG.out.cell 6 _ rfl
        obtain ⟨ly3, hly3⟩ : ∃ x, z2.heap.size = x := ⟨_, rfl⟩
        have HLY := Lib.hid ((Later.new z2 (.cells (tcs nm (1 + (o6 : Int)) vt vi vs false false) 28)).alloc (.cells #[] 52))
        have HLT := Lib.hid (((Blk.new z2 (tcs nm (1 + (o6 : Int)) vt vi vs false false) 28 ly3 hly3.symm).later (Later.new _ (.cells #[] 52))).has (cs := ft [⟨nm, (1 + (o6 : Int)), (vt, vi, vs), false, false⟩]))
        go_wp2_with fail
        refine (predRows_any (some ⟨vb, voff, none⟩) vn vc vn cols (some ⟨ly3, 0, none⟩) 1 1 [⟨nm, (1 + (o6 : Int)), (vt, vi, vs), false, false⟩] _ 0 0 [] _ HCL.out.symm (by omega) (HV4.out.far (HFZ.out.later HLY.out)).has rfl (by omega) HLT.out rfl (by omega) ⟨.inl rfl, fun s hs => by cases hs⟩ (fun s hs => by cases hs)).mono ?_
        rintro e z3 ⟨PA, pc, rfl, _, _, _, lz⟩
        have HFZ := Lib.hid ((HFZ.out.later HLY.out).later lz)
        clear hly3 t0 t1 t2 t3 t4 t5 t6 s0 s1 lz HLT HLY
        rw [show (passTo cols [⟨nm, (1 + (o6 : Int)), (vt, vi, vs), false, false⟩] (rowsC (colsOf [])) (rowsC (colsOf [])).length).length = 0 from Nat.le_zero.1 (Nat.le_trans (passTo_len _ _ _ _) (by first | exact Nat.le_refl _ | decide | simp [rowsC, colsOf, heightC]))]
        go_wp2_with fail
        go_ret
        exact ⟨rfl, HL1.out.trans ((HF4.out.trans HFZ.out).out HG0.out.symm HL2.out)⟩
end Go.Proofs.YteiabachilpciaaDoor
