/- The walks of the reference's Space: turn, Mark, Free, Take. -/
import Derived.Test.YtnmldploafpbdaaDoorSpaceR
namespace Go.Proofs.YtnmldploafpbdaaDoor
open Go.RowKit
set_option linter.unusedVariables false

theorem refAll_any (p : Nat) (f : Int) (l : List Bool) (g c : Nat) (a n : Int) (t : Bool) (w : World) (h : Spr w p f l g c) (hf : 0 ≤ f) (hf2 : f ≤ 1099511627776) (hl : l.length ≤ 4000) (ha : a ≤ 9223372036854775807) :
    Calls Tryd.prog 38 #[sptr p, ext a n, .bool (!t)] w fun e w' => e = .returned (.bool (turnS f l a n t).isSome) ∧ Later w w' := by
  by_cases hi : insideS f l a n
  · obtain ⟨h1, h2, h3⟩ := hi
    obtain ⟨k, hk⟩ := Int.eq_ofNat_of_zero_le (show 0 ≤ a - f by omega)
    obtain ⟨m, rfl⟩ := Int.eq_ofNat_of_zero_le (show 0 ≤ n by omega)
    obtain rfl : a = f + (k : Int) := by omega
    refine (refAll_in p f l g c k m (!t) w h hf hf2 hl (by omega) (by omega)).mono ?_
    rintro e w' ⟨r, rfl, hr, l1⟩
    rw [Bool.not_not] at hr
    rw [turnS_in (by omega) (by omega)]
    refine ⟨?_, l1⟩
    by_cases hx : idxB t (segL l k m) = -1
    · rw [if_pos hx, hr.2 hx]; rfl
    · rw [if_neg hx]
      cases r
      · rfl
      · exact absurd (hr.1 rfl) hx
  · rw [turnS_out hi]
    exact refAll_out p f l g c a n (!t) w h hf hf2 hl ha hi

/-- What the reference's turn leaves. -/
def TurnR (p : Nat) (f : Int) (l : List Bool) (g c : Nat) (a n : Int) (t : Bool) (w : World) (e : Ending) (w' : World) : Prop :=
  e = .returned (.bool (turnS f l a n t).isSome) ∧ Spr w' p f ((turnS f l a n t).getD l) g c ∧ w.grownBy w' (some g)
theorem turnS_some {f : Int} {l q : List Bool} {a n : Int} {t : Bool} (h : turnS f l a n t = some q) : ∃ k m : Nat, a = f + (k : Int) ∧ n = (m : Int) ∧ 1 ≤ m ∧ k + m ≤ l.length ∧ q = setL l k m t ∧ idxB t (segL l k m) = -1 := by
  unfold turnS at h
  split at h
  · rename_i hc
    injection h with h
    refine ⟨(a - f).toNat, n.toNat, by omega, by omega, by omega, by omega, h.symm, hc.2.2.2⟩
  · cases h

def RInv (p : Nat) (f : Int) (l : List Bool) (g c k m : Nat) (t : Bool) (ge : Nat) (a : Int) (w : World) (iv : Value) (wr : World) : Prop :=
  ∃ j : Nat, iv = .int .i64 j ∧ j ≤ m ∧ Spr wr p f (setL l k j t) g c ∧ w.grownBy wr (some g) ∧ Blk wr ge #[.int .i64 a, .int .i64 m] 30
theorem RInv.mk {p : Nat} {f : Int} {l : List Bool} {g c k m : Nat} {t : Bool} {ge : Nat} {a : Int} {w wr : World} (i : Int) (j : Nat) (hi : i = (j : Int)) (hj : j ≤ m) (h1 : Spr wr p f (setL l k j t) g c) (h2 : w.grownBy wr (some g)) (h3 : Blk wr ge #[.int .i64 a, .int .i64 m] 30) : RInv p f l g c k m t ge a w (.int .i64 i) wr := by
  subst hi; exact ⟨j, rfl, hj, h1, h2, h3⟩

set_option maxRecDepth 100000 in
set_option maxHeartbeats 2000000 in
theorem refTurn_any (p : Nat) (f : Int) (l : List Bool) (g c : Nat) (a n : Int) (t : Bool) (w : World) (h : Spr w p f l g c) (hf : 0 ≤ f) (hf2 : f ≤ 1099511627776) (hl : l.length ≤ 4000) (ha : a ≤ 9223372036854775807) :
    Calls Tryd.prog 30 #[sptr p, ext a n, .bool t] w (TurnR p f l g c a n t w) := by
  have HGL := Lib.hid h.glt
  have HW := Lib.hid h
  have HL := Lib.hid (Later.new w (.cells #[.int .i64 a, .int .i64 n] 30))
  have BE := Blk.new w #[.int .i64 a, .int .i64 n] 30 w.heap.size rfl
  have h2 := h.later HL.out
  have HT := Lib.hid (refAll_any p f l g c a n t _ h2 hf hf2 hl ha)
  have HSp := Lib.hid h2
  have HBE := Lib.hid BE
  have b0 := BE.cell 0 _ rfl
  have b1 := BE.cell 1 _ rfl
  obtain ⟨w1, hw1⟩ : ∃ x, w.alloc (.cells #[.int .i64 a, .int .i64 n] 30) = x := ⟨_, rfl⟩
  rw [hw1] at b0 b1 HL HSp HBE HT
  obtain ⟨ge, hge⟩ : ∃ x, w.heap.size = x := ⟨_, rfl⟩
  rw [hge] at b0 b1 HBE
  have HGE := Lib.hid hge
  have HO := Lib.hid (show turnS f l a n t = turnS f l a n t from rfl)
  obtain ⟨o, ho⟩ : ∃ o, turnS f l a n t = o := ⟨_, rfl⟩
  rw [ho] at HT
  have HO := Lib.hid ho
  clear h h2 BE ho
  go_enter Tryd.func30, Tryd.ntmps30
  go_wp2_with fail
  refine HT.out.mono ?_
  rintro e w2 ⟨rfl, l2⟩
  rcases o with _ | q
  · have HL2 := Lib.hid (HL.out.trans l2)
    have hz : (none : Option (List Bool)).isSome = false := rfl
    rw [hz]
    clear b0 b1 l2 HT hz
    go_wp2_with fail
    go_ret
    refine ⟨?_, ?_, HL2.out.grown _⟩
    · rw [HO.out]; rfl
    · rw [HO.out]; exact HW.out.later HL2.out
  · obtain ⟨k, m, rfl, rfl, hm, hk, rfl, hx⟩ := turnS_some HO.out
    have hz : (some (setL l k m t) : Option (List Bool)).isSome = true := rfl
    rw [hz]
    obtain ⟨len, hlen⟩ : ∃ n, n = l.length := ⟨_, rfl⟩
    have HLEN := Lib.hid hlen
    have HK := Lib.hid hk
    rw [← hlen] at hl hk
    obtain ⟨a, haa⟩ : ∃ a, a = f + (k : Int) := ⟨_, rfl⟩
    have HAA := Lib.hid haa
    rw [← haa] at HBE ⊢
    have HO2 := Lib.hid (show turnS f l a m t = some (setL l k m t) by rw [haa]; exact HO.out)
    have e0 : IntKind.i64.wrap (a - f) = (k : Int) := by rw [IntWalk.i64_in _ ⟨by omega, by omega⟩]; omega
    have hk4 : k ≤ 4000 := by omega
    have hm4 : m ≤ 4000 := by omega
    have HI := Lib.hid (RInv.mk (w := w) (p := p) (f := f) (l := l) (g := g) (c := c) (k := k) (m := m) (t := t) (a := a) (ge := ge) 0 0 rfl (Nat.zero_le _) (by rw [setL_zero]; exact HSp.out.later l2) ((HL.out.trans l2).grown _) (HBE.out.later l2))
    clear b0 b1 l2 HT hz hx hlen haa hw1
    go_wp2_with fail
    go_loopw [7] (fun iv wr => RInv p f l g c k m t ge a w iv wr) (fun iv _ => m - (intOf iv).toNat)
    case atStart => exact HI.out
    case round =>
      obtain ⟨j, rfl, hj, hsp, hgr, hbe⟩ := hrel
      have HSP := Lib.hid hsp
      have HG := Lib.hid hgr
      have HB := Lib.hid hbe
      have hll : (setL l k j t).length = len := by rw [HLEN.out]; exact setL_len t (by have := HK.out; omega)
      have a0 := hsp.at0
      have a1 := hsp.at1
      rw [hll] at a1
      have b0 := hbe.cell 0 _ rfl
      have b1 := hbe.cell 1 _ rfl
      have hc := hsp.cap
      by_cases hlt : j < m
      · have hkj : k + j < (setL l k j t).length := by rw [hll]; omega
        have hkl : k + j < len := by omega
        have hcell := hsp.cell (k + j) hkj
        have hfr := hsp.frozen (k + j)
        obtain ⟨x, hx⟩ : ∃ x, x = (setL l k j t)[k + j] := ⟨_, rfl⟩
        rw [← hx] at hcell
        have d5 : decide (j < m) = true := by simp; omega
        clear hx hkj hsp hgr hbe hc hll
        go_wp2_with fail
        go_region
        have s5 := HSP.out.turn (k + j) t
        rw [setL_step l k j t (by have := HLEN.out; omega)] at s5
        have hb5 := HB.out.far (p := ⟨g, k + j, none⟩) (by have := HGE.out; have := HGL.out; simp; omega) (.bool t)
        have hg5 := only_setCell HG.out (p := ⟨g, k + j, none⟩) (.inl rfl) (.bool t)
        have HS5 := Lib.hid s5
        have HB5 := Lib.hid hb5
        have HG5 := Lib.hid hg5
        clear s5 hb5 hg5 hcell hfr
        go_wp2_with fail
        go_roundw
        case rel => exact RInv.mk _ (j + 1) (by go_num) hlt HS5.out.drew (only_drew HG5.out) HB5.out.drew
        case measure => simp [intOf]; omega
      · obtain rfl : j = m := by omega
        have d5 : decide (j < j) = false := by simp
        clear hsp hgr hbe hc hll
        go_wp2_with fail
        go_ret
        refine ⟨?_, ?_, HG.out⟩
        · rw [HO.out]; rfl
        · rw [HO.out]; exact HSP.out

set_option maxRecDepth 100000 in
set_option maxHeartbeats 2000000 in
theorem refMark_any (p : Nat) (f : Int) (l : List Bool) (g c : Nat) (a n : Int) (w : World) (h : Spr w p f l g c) (hf : 0 ≤ f) (hf2 : f ≤ 1099511627776) (hl : l.length ≤ 4000) (ha : a ≤ 9223372036854775807) :
    Calls Tryd.prog 14 #[sptr p, ext a n] w (TurnR p f l g c a n true w) := by
  have BE := Blk.new w #[.int .i64 a, .int .i64 n] 30 w.heap.size rfl
  have b0 := BE.cell 0 _ rfl
  have b1 := BE.cell 1 _ rfl
  have H := Lib.hid (refTurn_any p f l g c a n true _ (h.later (Later.new w (.cells #[.int .i64 a, .int .i64 n] 30))) hf hf2 hl ha)
  have HL := Lib.hid (Later.new w (.cells #[.int .i64 a, .int .i64 n] 30))
  clear h BE
  go_enter Tryd.func14, Tryd.ntmps14
  go_wp2_with fail
  refine H.out.mono ?_
  rintro e w2 ⟨rfl, s2, g2⟩
  have H2 := Lib.hid (show TurnR p f l g c a n true w (.returned (.bool (turnS f l a n true).isSome)) w2 from ⟨rfl, s2, only_trans (HL.out.grown _) g2⟩)
  clear s2 g2 b0 b1 H
  go_wp2_with fail
  go_ret
  exact H2.out
set_option maxRecDepth 100000 in
set_option maxHeartbeats 2000000 in
theorem refFree_any (p : Nat) (f : Int) (l : List Bool) (g c : Nat) (a n : Int) (w : World) (h : Spr w p f l g c) (hf : 0 ≤ f) (hf2 : f ≤ 1099511627776) (hl : l.length ≤ 4000) (ha : a ≤ 9223372036854775807) :
    Calls Tryd.prog 16 #[sptr p, ext a n] w (TurnR p f l g c a n false w) := by
  have BE := Blk.new w #[.int .i64 a, .int .i64 n] 30 w.heap.size rfl
  have b0 := BE.cell 0 _ rfl
  have b1 := BE.cell 1 _ rfl
  have H := Lib.hid (refTurn_any p f l g c a n false _ (h.later (Later.new w (.cells #[.int .i64 a, .int .i64 n] 30))) hf hf2 hl ha)
  have HL := Lib.hid (Later.new w (.cells #[.int .i64 a, .int .i64 n] 30))
  clear h BE
  go_enter Tryd.func16, Tryd.ntmps16
  go_wp2_with fail
  refine H.out.mono ?_
  rintro e w2 ⟨rfl, s2, g2⟩
  have H2 := Lib.hid (show TurnR p f l g c a n false w (.returned (.bool (turnS f l a n false).isSome)) w2 from ⟨rfl, s2, only_trans (HL.out.grown _) g2⟩)
  clear s2 g2 b0 b1 H
  go_wp2_with fail
  go_ret
  exact H2.out

theorem turnS_at {f : Int} {l : List Bool} {i : Nat} {k : Int} : turnS f l (f + (i : Int)) k true = if 1 ≤ k ∧ okB l i k.toNat = true then some (setL l i k.toNat true) else none := by
  by_cases hk : 1 ≤ k
  · obtain ⟨m, rfl⟩ := Int.eq_ofNat_of_zero_le (show 0 ≤ k by omega)
    rw [Int.toNat_natCast]
    by_cases hok : okS l i m
    · rw [turnS_in (by omega) hok.1, if_pos hok.idx, if_pos ⟨hk, (okB_iff _ _ _).2 hok⟩]
    · rw [if_neg (fun h => hok ((okB_iff _ _ _).1 h.2))]
      by_cases hl : i + m ≤ l.length
      · rw [turnS_in (by omega) hl, if_neg (fun h => hok (okS_of_idx hl h))]
      · exact turnS_out (fun h => hl (by have := h.2.2; omega))
  · rw [if_neg (fun h => hk h.1)]
    exact turnS_out (fun h => hk h.1)
/-- What the reference's Take leaves. -/
def TakeQ (p : Nat) (f : Int) (l : List Bool) (g c : Nat) (k : Int) (o : Option Nat) (w : World) (e : Ending) (w' : World) : Prop :=
  (∃ i : Nat, o = some i ∧ e = .returned (.tuple #[ext (f + (i : Int)) k, .bool true]) ∧ Spr w' p f (setL l i k.toNat true) g c ∧ w.grownBy w' (some g)) ∨
  (o = none ∧ e = .returned (.tuple #[ext 0 0, .bool false]) ∧ Spr w' p f l g c ∧ w.grownBy w' (some g))
theorem TakeQ.mky {p : Nat} {f q : Int} {l : List Bool} {g c : Nat} {k : Int} {o : Option Nat} {w w' : World} {i : Nat} (h : o = some i) (hq : q = f + (i : Int)) (hs : Spr w' p f (setL l i k.toNat true) g c) (hg : w.grownBy w' (some g)) : TakeQ p f l g c k o w (.returned (.tuple #[ext q k, .bool true])) w' := by
  subst hq; exact .inl ⟨i, h, rfl, hs, hg⟩
theorem TakeQ.yes {p : Nat} {f : Int} {l : List Bool} {g c : Nat} {k : Int} {w w' : World} {e : Ending} {i : Nat} (h : TakeQ p f l g c k (some i) w e w') : e = .returned (.tuple #[ext (f + (i : Int)) k, .bool true]) ∧ Spr w' p f (setL l i k.toNat true) g c ∧ w.grownBy w' (some g) := by
  rcases h with ⟨j, h, h2⟩ | ⟨h, _⟩
  · injection h with h; subst h; exact h2
  · cases h
theorem TakeQ.no {p : Nat} {f : Int} {l : List Bool} {g c : Nat} {k : Int} {w w' : World} {e : Ending} (h : TakeQ p f l g c k none w e w') : e = .returned (.tuple #[ext 0 0, .bool false]) ∧ Spr w' p f l g c ∧ w.grownBy w' (some g) := by
  rcases h with ⟨j, h, _⟩ | ⟨_, h⟩
  · cases h
  · exact h
theorem fstS_yes {l : List Bool} {k : Int} {i : Nat} (hk : 1 ≤ k) (h : okB l i k.toNat = true) (hm : ∀ i' < i, ¬ (1 ≤ k ∧ okB l i' k.toNat = true)) : fstS l k = some i := by
  obtain ⟨m, rfl⟩ := Int.eq_ofNat_of_zero_le (show 0 ≤ k by omega)
  rw [Int.toNat_natCast] at *
  exact fstS_some (by omega) ((okB_iff _ _ _).1 h) (fun i' hi ho => hm i' hi ⟨hk, (okB_iff _ _ _).2 ho⟩)
theorem fstS_no {l : List Bool} {k : Int} (hm : ∀ i' < l.length, ¬ (1 ≤ k ∧ okB l i' k.toNat = true)) : fstS l k = none := by
  by_cases hk : 1 ≤ k
  · obtain ⟨m, rfl⟩ := Int.eq_ofNat_of_zero_le (show 0 ≤ k by omega)
    rw [Int.toNat_natCast] at *
    exact fstS_none (fun i ho => hm i (by have := ho.1; omega) ⟨hk, (okB_iff _ _ _).2 ho⟩)
  · exact fstS_low (by omega)

def QInv (p : Nat) (f : Int) (l : List Bool) (g c n : Nat) (k : Int) (b : Nat) (w : World) (iv : Value) (wr : World) : Prop :=
  ∃ i : Nat, iv = .int .i64 i ∧ i ≤ n ∧ (∀ i' < i, ¬ (1 ≤ k ∧ okB l i' k.toNat = true)) ∧ Spr wr p f l g c ∧ w.grownBy wr (some g) ∧ Blk wr b #[.int .i64 0, .int .i64 0] 30
theorem QInv.mk {p : Nat} {f : Int} {l : List Bool} {g c n : Nat} {k : Int} {b : Nat} {w wr : World} (a : Int) (i : Nat) (ha : a = (i : Int)) (hi : i ≤ n) (h0 : ∀ i' < i, ¬ (1 ≤ k ∧ okB l i' k.toNat = true)) (h1 : Spr wr p f l g c) (h2 : w.grownBy wr (some g)) (h3 : Blk wr b #[.int .i64 0, .int .i64 0] 30) : QInv p f l g c n k b w (.int .i64 a) wr := by
  subst ha; exact ⟨i, rfl, hi, h0, h1, h2, h3⟩

set_option maxRecDepth 100000 in
set_option maxHeartbeats 2000000 in
theorem refTake_any (p : Nat) (f : Int) (l : List Bool) (g c : Nat) (k : Int) (w : World) (h : Spr w p f l g c) (hf : 0 ≤ f) (hf2 : f ≤ 1099511627776) (hl : l.length ≤ 4000) :
    Calls Tryd.prog 19 #[sptr p, .int .i64 k] w (TakeQ p f l g c k (fstS l k) w) := by
  have RB := Blk.new w #[.int .i64 0, .int .i64 0] 30 w.heap.size rfl
  have HL := Lib.hid (Later.new w (.cells #[.int .i64 0, .int .i64 0] 30))
  have HSp := Lib.hid (h.later HL.out)
  have HB := Lib.hid RB
  have HGL := Lib.hid h.glt
  have HPL := Lib.hid h.1.lt
  obtain ⟨w1, hw1⟩ : ∃ x, w.alloc (.cells #[.int .i64 0, .int .i64 0] 30) = x := ⟨_, rfl⟩
  rw [hw1] at HL HB HSp
  obtain ⟨b, hb⟩ : ∃ x, w.heap.size = x := ⟨_, rfl⟩
  rw [hb] at HB
  have HBB := Lib.hid hb
  have HBG := Lib.hid (show g ≠ b ∧ p ≠ b by have := HGL.out; have := HPL.out; omega)
  obtain ⟨n, hn⟩ : ∃ n, n = l.length := ⟨_, rfl⟩
  have HN := Lib.hid hn
  have HF := Lib.hid hf
  have HF2 := Lib.hid hf2
  have HLL := Lib.hid hl
  have hn4 : n ≤ 4000 := by omega
  clear RB h hn hl
  go_enter Tryd.func19, Tryd.ntmps19
  go_wp2_with fail
  clear hw1
  go_loopw [6] (fun iv wr => QInv p f l g c n k b w iv wr) (fun iv _ => n - (intOf iv).toNat)
  case atStart => exact QInv.mk 0 0 rfl (Nat.zero_le _) (fun i h => by omega) HSp.out (HL.out.grown _) HB.out
  case round =>
    obtain ⟨i, rfl, hi, hno, hsp, hgr, hbl⟩ := hrel
    have HNO := Lib.hid hno
    have HSP := Lib.hid hsp
    have HG := Lib.hid hgr
    have HBL := Lib.hid hbl
    have a0 := hsp.at0
    have a1 := hsp.at1
    rw [← HN.out] at a1
    have hgl := hsp.glt
    clear hno
    by_cases hlt : i < n
    · obtain ⟨q, hq⟩ : ∃ q, f + (i : Int) = q := ⟨_, rfl⟩
      have HQ := Lib.hid hq
      have e1 : IntKind.i64.wrap (f + (i : Int)) = q := by rw [IntWalk.i64_in _ ⟨by omega, by omega⟩]; omega
      have L2 := Later.new wr (.cells #[.int .i64 q, .int .i64 k] 30)
      have E2 := Blk.new wr #[.int .i64 q, .int .i64 k] 30 wr.heap.size rfl
      have HM := Lib.hid (refMark_any p f l g c q k _ (hsp.later L2) HF.out HF2.out HLL.out (by omega))
      have HB2 := Lib.hid (hbl.later L2)
      have HG2 := Lib.hid (only_trans hgr (L2.grown (some g)))
      have HSP2 := Lib.hid (hsp.later L2)
      have HE2 := Lib.hid E2
      have x0 := E2.cell 0 _ rfl
      have x1 := E2.cell 1 _ rfl
      have y0 := (Blk.new wr #[.int .i64 0, .int .i64 0] 30 wr.heap.size rfl).frozen 0
      have y1 := (Blk.new wr #[.int .i64 0, .int .i64 0] 30 wr.heap.size rfl).frozen 1
      obtain ⟨o, ho⟩ : ∃ o, turnS f l q k true = o := ⟨_, rfl⟩
      have HO := Lib.hid (show turnS f l (f + (i : Int)) k true = o by rw [hq]; exact ho)
      have HO2 := Lib.hid ho
      have hgb : g ≠ wr.heap.size := by omega
      have HGB := Lib.hid hgb
      clear hsp hgr hbl L2 E2 ho hgl hgb
      go_wp2_with fail
      refine HM.out.mono ?_
      rintro e w3 ⟨rfl, s3, g3⟩
      rw [HO2.out] at s3 ⊢
      have R3 := HB2.out.grown g3 (by intro h; injection h with h; exact HBG.out.1 h.symm)
      have E3 := HE2.out.grown g3 (by intro h; injection h with h; exact HGB.out h.symm)
      have G3 := only_trans HG2.out g3
      have HTA := Lib.hid (turnS_at.symm.trans HO.out)
      clear x0 x1 y0 y1 a0 a1 g3
      rcases o with _ | oo
      · have hz : (none : Option (List Bool)).isSome = false := rfl
        rw [hz]
        have hno2 : ¬ (1 ≤ k ∧ okB l i k.toNat = true) := by
          intro hc
          have := HTA.out
          rw [if_pos hc] at this
          cases this
        have s3 : Spr w3 p f l g c := s3
        have HS3 := Lib.hid s3
        have HR3 := Lib.hid R3
        have HG3 := Lib.hid G3
        have HN2 := Lib.hid hno2
        clear s3 R3 E3 G3 hno2
        go_wp2_with fail
        go_roundw
        case rel =>
          refine QInv.mk _ (i + 1) (by go_num) (by omega) (fun i' hi' => ?_) HS3.out HG3.out HR3.out
          by_cases h : i' < i
          · exact HNO.out i' h
          · rw [show i' = i from by omega]; exact HN2.out
        case measure => simp [intOf]; omega
      · have hz : (some oo : Option (List Bool)).isSome = true := rfl
        rw [hz]
        have hcc : (1 ≤ k ∧ okB l i k.toNat = true) ∧ oo = setL l i k.toNat true := by
          have := HTA.out
          split at this
          · rename_i hc
            injection this with this
            exact ⟨hc, this.symm⟩
          · cases this
        have s3 : Spr w3 p f (setL l i k.toNat true) g c := by rw [← hcc.2]; exact s3
        have HFS := Lib.hid (fstS_yes hcc.1.1 hcc.1.2 HNO.out)
        have HS3 := Lib.hid s3
        have HR3 := Lib.hid R3
        have HG3 := Lib.hid G3
        have x0 := E3.cell 0 _ rfl
        have x1 := E3.cell 1 _ rfl
        have r0 := R3.cell 0 _ rfl
        have r1 := R3.cell 1 _ rfl
        have f0 := R3.frozen 0
        have f1 := R3.frozen 1
        clear s3 R3 E3 G3 hcc
        go_wp2_with fail
        have R4 := (HR3.out.set_ 0 (.int .i64 q)).set_ 1 (.int .i64 k)
        have S4 := (HS3.out.far (q := ⟨b, 0, none⟩) HBG.out.2 HBG.out.1 (.int .i64 q)).far (q := ⟨b, 1, none⟩) HBG.out.2 HBG.out.1 (.int .i64 k)
        have hwb : w.heap.size ≤ b := by have := HBB.out; omega
        have G4 := only_setCell (only_setCell HG3.out (p := ⟨b, 0, none⟩) (.inr hwb) (.int .i64 q)) (p := ⟨b, 1, none⟩) (.inr hwb) (.int .i64 k)
        obtain ⟨w4, hw4⟩ : ∃ w4, w4 = ((w3.setCell ⟨b, 0, none⟩ (.int .i64 q)).setCell ⟨b, 1, none⟩ (.int .i64 k)) := ⟨_, rfl⟩
        rw [← hw4] at R4 S4 G4 ⊢
        have z0 := R4.cell 0 _ rfl
        have z1 := R4.cell 1 _ rfl
        exact bodyPost_ret (v := .tuple #[ext q k, .bool true]) (by simp [results, Tryd.results19, go_sem, z0, z1]) rfl (TakeQ.mky HFS.out HQ.out.symm S4 G4)
    · obtain rfl : i = n := by omega
      have f0 := hbl.frozen 0
      have f1 := hbl.frozen 1
      have r0 := hbl.cell 0 _ rfl
      have r1 := hbl.cell 1 _ rfl
      clear hsp hgr hbl
      go_wp2_with fail
      have R4 := (HBL.out.set_ 0 (.int .i64 0)).set_ 1 (.int .i64 0)
      have S4 := (HSP.out.far (q := ⟨b, 0, none⟩) HBG.out.2 HBG.out.1 (.int .i64 0)).far (q := ⟨b, 1, none⟩) HBG.out.2 HBG.out.1 (.int .i64 0)
      have hwb : w.heap.size ≤ b := by have := HBB.out; omega
      have G4 := only_setCell (only_setCell HG.out (p := ⟨b, 0, none⟩) (.inr hwb) (.int .i64 0)) (p := ⟨b, 1, none⟩) (.inr hwb) (.int .i64 0)
      obtain ⟨w4, hw4⟩ : ∃ w4, w4 = ((wr.setCell ⟨b, 0, none⟩ (.int .i64 0)).setCell ⟨b, 1, none⟩ (.int .i64 0)) := ⟨_, rfl⟩
      rw [← hw4] at R4 S4 G4 ⊢
      have x0 := R4.cell 0 _ rfl
      have x1 := R4.cell 1 _ rfl
      exact bodyPost_ret (v := .tuple #[ext 0 0, .bool false]) (by simp [results, Tryd.results19, go_sem, x0, x1]) rfl (.inr ⟨fstS_no (by rw [← HN.out]; exact HNO.out), rfl, S4, G4⟩)
end Go.Proofs.YtnmldploafpbdaaDoor
