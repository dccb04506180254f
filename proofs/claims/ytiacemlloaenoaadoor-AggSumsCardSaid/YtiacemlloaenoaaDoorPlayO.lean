/- The walk of rabbetplay's Rows. -/
import Derived.Test.YtiacemlloaenoaaDoorPlayR
namespace Go.Proofs.YtiacemlloaenoaaDoor
open Go.RowKit
set_option linter.unusedVariables false

/-- A slice of values that lies above all that was there. -/
def SlV.above (base : Nat) (s : SlV) : Prop := ∀ b off, s.a = some ⟨b, off, none⟩ → base ≤ b
theorem RowsOn.far {base : Nat} {g : Nat} {w w' : World} {A : Option Addr} {n c : Nat} {ss : List SlV} (h : RowsOn base w A n c ss) (hf : Far g w w') (hb : g < base) (ha : ∀ s ∈ ss, s.above (g + 1)) : RowsOn base w' A n c ss := by
  refine ⟨h.1, hf.own hb h.2.1, fun s hs => ⟨?_, (h.2.2.1 s hs).2⟩, h.2.2.2⟩
  rcases (h.2.2.1 s hs).1 with hx | ⟨b, off, hA, hlt, hne, hc⟩
  · exact .inl hx
  · exact .inr ⟨b, off, hA, Nat.lt_of_lt_of_le hlt hf.size, hne, fun k v hv => by rw [cell_block (hf.2.2 b hlt (by have := ha s hs b off hA; omega))]; exact hc k v hv⟩
theorem own_at2 {w : World} {base : Nat} {e : TypeId} {k : Nat} {v : Value} {n : Nat} {xs : List Value} (h : w.ownsRow base e k v n xs) {q : Nat} (hq : v.ownBlock = some q) : base ≤ q ∧ q < w.heap.size := h.lt q hq
/-- Rows, as Row makes them. -/
def FitRs (xs : List Col3) (base : Nat) (ss : List SlV) : Prop := ∀ s ∈ ss, s.above base ∧ s.l.length = xs.length ∧ FitR xs s.l
def MadeRows (xs : List Col3) (N : Nat) (g : Nat) (A : Option Addr) (n c : Nat) (bs : List Nat) (w : World) (e : Ending) (w' : World) : Prop :=
  ∃ (ss : List SlV) (L : Option Addr) (lc : Nat), e = .returned (.slice L N lc) ∧ ss.length = N ∧ RowsOn w.heap.size w' L N lc ss ∧ FitRs xs w.heap.size ss ∧ Pks w' g A n c bs ∧ Far g w w'
/-- Where Rows' loop stands. -/
def RoJ (xs : List Col3) (N : Nat) (g : Nat) (A : Option Addr) (n c : Nat) (bs : List Nat) (V : Option Addr) (vc : Nat) (last : Int) (w : World) (lv iv : Value) (wr : World) : Prop :=
  ∃ (ss : List SlV) (L : Option Addr) (lc k : Nat), lv = .slice L k lc ∧ iv = .int .i64 k ∧ ss.length = k ∧ k ≤ N ∧ RowsOn (w.heap.size + 1) wr L k lc ss ∧ FitRs xs (w.heap.size + 1) ss ∧ Pks wr g A n c bs ∧ Far g w wr ∧ Blk wr w.heap.size #[.slice V xs.length vc, .int .i64 last] 29
theorem RoJ.mk {xs : List Col3} {N g : Nat} {A : Option Addr} {n c : Nat} {bs : List Nat} {V : Option Addr} {vc : Nat} {last : Int} {w wr : World} (y : Int) (ss : List SlV) (L : Option Addr) (m lc k : Nat) (hm : m = k) (hy : y = (k : Int)) (hk : ss.length = k) (hkN : k ≤ N) (ho : RowsOn (w.heap.size + 1) wr L m lc ss) (hf : FitRs xs (w.heap.size + 1) ss)
    (hp : Pks wr g A n c bs) (hF : Far g w wr) (hB : Blk wr w.heap.size #[.slice V xs.length vc, .int .i64 last] 29) : RoJ xs N g A n c bs V vc last w (.slice L m lc) (.int .i64 y) wr := by
  subst hy hm; exact ⟨ss, L, lc, m, rfl, rfl, hk, hkN, ho, hf, hp, hF, hB⟩

set_option maxRecDepth 100000 in
set_option maxHeartbeats 4000000 in
theorem rows_any (N : Nat) (g : Nat) (A : Option Addr) (n c : Nat) (bs : List Nat) (V : Option Addr) (vn vc : Nat) (last : Int) (xs : List Col3) (w : World) (hc : PkC n bs) (hp : Pks w g A n c bs) (hvn : vn = xs.length) (hl : vn ≤ 1000) (hN : N ≤ 1000) (hV : HasX (some g) w V (fc xs)) :
    Calls Tryd.prog 11 #[.pointer (some ⟨g, 0, none⟩), .agg #[.slice V vn vc, .int .i64 last], .int .i64 N] w (MadeRows xs N g A n c bs w) := by
  obtain ⟨h0, hh0⟩ : ∃ x, w.heap.size = x := ⟨_, rfl⟩
  obtain ⟨w1, hw1⟩ : ∃ x : World, w.alloc (.cells #[.slice V vn vc, .int .i64 last] 29) = x := ⟨_, rfl⟩
  have l1 : Later w w1 := hw1 ▸ Later.new w _
  have HI0 := Lib.hid (RoJ.mk (xs := xs) (N := N) (g := g) (A := A) (n := n) (c := c) (bs := bs) (V := V) (vc := vc) (last := last) (w := w) (wr := w1) 0 [] none 0 0 0 rfl rfl rfl (Nat.zero_le _) (RowsOn.nil_ _ _) (fun s hs => by cases hs) (hp.later l1) (Far.of hp.lt l1) (hvn ▸ hw1 ▸ Blk.new _ _ _ _ rfl))
  have HV := Lib.hid hV
  have HVN := Lib.hid hvn
  have HG := Lib.hid hp.lt
  have HS1 := Lib.hid (show w1.heap.size = h0 + 1 by rw [← hw1, ← hh0]; simp)
  clear l1 hp hV hvn
  go_enter Tryd.func11, Tryd.ntmps11
  go_wp2_with fail
  clear hw1
  go_loopw [7, 8] (fun lv iv wr => RoJ xs N g A n c bs V vc last w lv iv wr) (fun _ i _ => N - (intOf i).toNat)
  case atStart => exact HI0.out
  case round =>
    obtain ⟨ss, L, lc, k, rfl, rfl, hss, hkN, hon, hfit, hpk, hfar, hblk⟩ := hrel
    have HFIT := Lib.hid hfit
    have HBLK := Lib.hid hblk
    have HFAR := Lib.hid hfar
    have HSS := Lib.hid hss
    have HON := Lib.hid hon
    rw [← HVN.out, hh0] at hblk
    have c0 := hblk.cell 0 _ rfl
    have c1 := hblk.cell 1 _ rfl
    clear HI0 hfit hfar hblk hss hon
    by_cases hlt : k < N
    · have hkl : (k : Int) < (N : Int) := by omega
      have HRW := Lib.hid (row_any g A n c bs V vn vc last xs wr hc hpk HVN.out hl (HV.out.far HFAR.out))
      clear hpk
      go_wp2_with fail
      refine HRW.out.mono ?_
      rintro e wn ⟨row, R, rc, rfl, hrl, hfr, ho, hrn, hp2, hf2⟩
      have HP2 := Lib.hid hp2
      have HF2 := Lib.hid (HFAR.out.trans hf2)
      have HB2 := Lib.hid (hf2.blk HBLK.out (by have := HG.out; omega))
      have HABV := Lib.hid (fun s hs b off e => by have := (HFIT.out s hs).1 b off e; have := HG.out; omega : ∀ s ∈ ss, s.above (g + 1))
      have hon2 := HON.out.far hf2 (by have := HG.out; omega) HABV.out
      have HOKR := Lib.hid (show (⟨R, rc, row⟩ : SlV).okX (Value.slice L k lc).ownBlock wn from SlV.okX.own ho rfl hrn fun q hq => (HON.out.2.1.lt q hq).2)
      have HFR := Lib.hid (show SlV.above (w.heap.size + 1) ⟨R, rc, row⟩ ∧ row.length = xs.length ∧ FitR xs row from ⟨fun b off e => by
        have e : R = some ⟨b, off, none⟩ := e
        rw [e] at ho
        have := (own_at2 (q := b) ho rfl).1
        have := HFAR.out.size
        have := HBLK.out.lt
        omega, hrl, hfr⟩)
      have HOA := Lib.hid (fun (o : Obj) => hon2.later (Later.new wn o))
      have HOKA := Lib.hid (fun (o : Obj) => HOKR.out.later (Later.new wn o))
      have HSZ := Lib.hid (show w.heap.size + 1 ≤ wn.heap.size from HB2.out.lt)
      obtain ⟨rn, hrnn⟩ : ∃ x, row.length = x := ⟨_, rfl⟩
      have HRL := Lib.hid (show (⟨R, rc, row⟩ : SlV).v = .slice R rn rc by rw [SlV.v_eq, ← hrnn])
      have HBK := Lib.hid (fun (wz : World) => Blk.new wz #[.slice R rn rc] 48 wz.heap.size rfl)
      rw [hrnn]
      clear hp2 hf2 c0 c1 hon2 hrl hfr ho hrn HRW hrnn
      go_wp2_with (at_builtin; refine wpList_append_x _ rfl (.tmp 14) (.tmp 18) 44 rfl (w.heap.size + 1) 48 _ 1 24 Tryd.underlying44 info_row rfl (by decide) _ k _ rfl (HOA.out _).2.1 _ 0 1 1 [.slice R rn rc] rfl (HBK.out wn).has rfl (by intro u hu; rw [List.mem_singleton] at hu; subst hu; rfl) (by unfold maxLen; omega) (by omega) (by have := HSZ.out; simp; omega) ?_; rintro A' c' wq hO hgr hbel hat hn2; have HO2 := Lib.hid (RowsOn.more (s := ⟨R, rc, row⟩) (HOA.out _) (HOKA.out _) (by rw [HRL.out]; exact hO) hgr hat hn2); have HL2 := Lib.hid (((Later.new wn _).below.mono HSZ.out).trans hbel); clear hO hn2 hbel hgr hat)
      go_roundw
      all_goals first
        | exact RoJ.mk _ (ss ++ [⟨R, rc, row⟩]) _ _ _ (k + 1) (by omega) (by omega) (by rw [List.length_append, HSS.out]; rfl) (by omega) HO2.out (by intro s hs; rcases List.mem_append.1 hs with h | h; exact HFIT.out s h; rw [List.mem_singleton] at h; subst h; exact HFR.out) (HP2.out.below HL2.out (by have := HG.out; omega)) (HF2.out.below (HL2.out.mono (by omega))) ((HL2.out.block _ (Nat.lt_succ_self _)).trans HB2.out)
        | (simp [intOf]; done)
        | (simp [intOf]; omega)
    · have hkn : k = N := by omega
      have HKN := Lib.hid hkn
      clear hkn
      go_wp2_with fail
      go_ret
      have hk := HKN.out
      subst hk
      obtain ⟨o1, o2, o3, o4⟩ := HON.out
      refine ⟨ss, L, lc, rfl, HSS.out, ⟨o1, ?_, o3, o4⟩, fun s hs => ⟨fun b off e => by have := (HFIT.out s hs).1 b off e; omega, (HFIT.out s hs).2⟩, hpk, HFAR.out⟩
      obtain ⟨p1, p2⟩ := o2
      refine ⟨p1, ?_⟩
      rcases p2 with p2 | ⟨q, cap, cur, ha, hb, hrest⟩
      · exact .inl p2
      · exact .inr ⟨q, cap, cur, ha, by omega, hrest⟩
end Go.Proofs.YtiacemlloaenoaaDoor
