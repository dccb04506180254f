/- The walk of SpaceAll. -/
import Derived.Test.YtnmldploafpbdaaDoorDeeds19
namespace Go.Proofs.YtnmldploafpbdaaDoor
open Go.RowKit
set_option linter.unusedVariables false

set_option maxRecDepth 100000 in
theorem spaceAll_skip (fr n : Int) (A : Option Addr) (len cap : Nat) (aB aO : Addr) (w : World) (hs : S19 w aB aO) (h : ¬ (len ≤ 40 ∧ n ≤ 60 ∧ fr ≤ 1099511627776)) :
    Calls Tryd.prog 3 #[.int .i64 fr, .int .i64 n, .slice A len cap] w fun e w' => e = .returned (.bool true) ∧ Later w w' := by
  have HB := Lib.hid (begun19_any aB aO w hs)
  clear hs
  go_enter Tryd.func3, Tryd.ntmps3
  go_wp2_with fail
  refine HB.out.mono ?_
  rintro e w1 ⟨rfl, l1⟩
  by_cases h1 : len ≤ 40
  · have d1 : decide ((40 : Int) < (len : Int)) = false := by simp; omega
    by_cases h2 : n ≤ 60
    · have d2 : decide ((60 : Int) < n) = false := by simp; omega
      have d3 : decide ((1099511627776 : Int) < fr) = true := by simp; omega
      clear h
      go_wp2_with fail
      go_ret
      exact ⟨rfl, l1⟩
    · have d2 : decide ((60 : Int) < n) = true := by simp; omega
      clear h
      go_wp2_with fail
      go_ret
      exact ⟨rfl, l1⟩
  · have d1 : decide ((40 : Int) < (len : Int)) = true := by simp; omega
    clear h
    go_wp2_with fail
    go_ret
    exact ⟨rfl, l1⟩

/-- The two spaces, and what was told, as they are. -/
def St (w0 : World) (N : Nat) (f : Int) (p2 g2 c2 p g c : Nat) (ls : List Bool) (told : List (Int × Int)) (A : Option Addr) (ct : Nat) (wr : World) : Prop :=
  ls.length = N ∧ Spc wr p f ls g c ∧ Spr wr p2 f ls g2 c2 ∧ g ≠ g2 ∧ wr.ownsRow w0.heap.size 30 2 (.slice A told.length ct) told.length (fl2 told) ∧ (∀ x ∈ told, x.1 ≤ 9223372036854775807) ∧ Later w0 wr ∧ w0.heap.size ≤ g ∧ w0.heap.size ≤ g2
section
variable {w0 wr w1 w2 : World} {N : Nat} {f : Int} {p2 g2 c2 p g c : Nat} {ls ls' : List Bool} {told : List (Int × Int)} {A : Option Addr} {ct : Nat}
theorem St.later (h : St w0 N f p2 g2 c2 p g c ls told A ct wr) (l : Later wr w1) : St w0 N f p2 g2 c2 p g c ls told A ct w1 := by
  obtain ⟨h1, h2, h3, h4, h5, h6, h7, h8, h9⟩ := h
  exact ⟨h1, h2.later l, h3.later l, h4, own_later h5 l, h6, h7.trans l, h8, h9⟩
theorem St.sp (h : St w0 N f p2 g2 c2 p g c ls told A ct wr) : Spc wr p f ls g c := h.2.1
theorem St.sr (h : St w0 N f p2 g2 c2 p g c ls told A ct wr) : Spr wr p2 f ls g2 c2 := h.2.2.1
theorem St.len (h : St w0 N f p2 g2 c2 p g c ls told A ct wr) : ls.length = N := h.1
theorem St.la (h : St w0 N f p2 g2 c2 p g c ls told A ct wr) : Later w0 wr := h.2.2.2.2.2.2.1
theorem St.drew (h : St w0 N f p2 g2 c2 p g c ls told A ct wr) : St w0 N f p2 g2 c2 p g c ls told A ct wr.drew := h.later (Later.refl _).drew
/-- Behind a change of the one space the other one is as it was. -/
theorem St.half (h : St w0 N f p2 g2 c2 p g c ls told A ct wr) (hg : wr.grownBy w1 (some g)) : Spr w1 p2 f ls g2 c2 ∧ Later w0 w1 := by
  obtain ⟨cs, hb⟩ := own_blk h.sp.2.2
  exact ⟨h.sr.grown hg (Ne.symm h.2.2.2.1) hb, h.la.only hg h.2.2.2.2.2.2.2.1⟩
theorem St.both (h : St w0 N f p2 g2 c2 p g c ls told A ct wr) (hg : wr.grownBy w1 (some g)) (hs : Spc w1 p f ls' g c) (hl : ls'.length = N) (hr : Spr w2 p2 f ls' g2 c2) (hk : w1.grownBy w2 (some g2)) : St w0 N f p2 g2 c2 p g c ls' told A ct w2 := by
  obtain ⟨cs, hb⟩ := own_blk h.sp.2.2
  obtain ⟨sr1, l1⟩ := h.half hg
  obtain ⟨cs2, hb2⟩ := own_blk sr1.2.2
  exact ⟨hl, hs.grown hk h.2.2.2.1 hb2, hr, h.2.2.2.1, own_grown (own_grown h.2.2.2.2.1 hg hb (by decide)) hk hb2 (by decide), h.2.2.2.2.2.1, l1.only hk h.2.2.2.2.2.2.2.2, h.2.2.2.2.2.2.2.1, h.2.2.2.2.2.2.2.2⟩
/-- It goes on as its copy, and the elder one changes. -/
theorem St.swap {p' g' c' : Nat} (h : St w0 N f p2 g2 c2 p g c ls told A ct wr) (l : Later wr w1) (hs : Spc w1 p' f ls g' c') (hg' : wr.heap.size ≤ g') (hg : w1.grownBy w2 (some g)) : St w0 N f p2 g2 c2 p' g' c' ls told A ct w2 := by
  have h1 := h.later l
  obtain ⟨cs, hb⟩ := own_blk h1.sp.2.2
  have hgl := h.sp.glt
  have hgl2 := h.sr.glt
  exact ⟨h.1, hs.grown hg (by omega) hb, (h1.half hg).1, by omega, own_grown h1.2.2.2.2.1 hg hb (by decide), h.2.2.2.2.2.1, (h1.half hg).2, by have := h.la.size; omega, h.2.2.2.2.2.2.2.2⟩
end
def AI (w0 : World) (N L : Nat) (f : Int) (p2 g2 c2 : Nat) (sv tv iv : Value) (wr : World) : Prop :=
  ∃ (i tl : Nat) (p g c : Nat) (ls : List Bool) (told : List (Int × Int)) (A : Option Addr) (ct : Nat), sv = sptr p ∧ tv = .slice A tl ct ∧ iv = .int .i64 i ∧ i ≤ L ∧ told.length = tl ∧ tl ≤ i ∧ St w0 N f p2 g2 c2 p g c ls told A ct wr
theorem AI.mk {w0 wr : World} {N L : Nat} {f : Int} {p2 g2 c2 p g c : Nat} {ls : List Bool} {told : List (Int × Int)} {A : Option Addr} {ct tl : Nat} (a : Int) (i : Nat) (ha : a = (i : Int)) (hi : i ≤ L) (htl : told.length = tl) (ht : tl ≤ i) (h : St w0 N f p2 g2 c2 p g c ls told A ct wr) : AI w0 N L f p2 g2 c2 (sptr p) (.slice A tl ct) (.int .i64 a) wr := by
  subst ha; exact ⟨i, tl, p, g, c, ls, told, A, ct, rfl, rfl, rfl, hi, htl, ht, h⟩
theorem St.far2 {w0 wr : World} {N : Nat} {f : Int} {p2 g2 c2 p g c : Nat} {ls : List Bool} {told : List (Int × Int)} {ct gt b : Nat} (h : St w0 N f p2 g2 c2 p g c ls told (some ⟨gt, 0, none⟩) ct wr) (hb : w0.heap.size ≤ b) (h1 : g ≠ b) (h2 : g2 ≠ b) (h3 : gt ≠ b) (hp : p ≠ b) (hp2 : p2 ≠ b) (x y : Int) : St w0 N f p2 g2 c2 p g c ls told (some ⟨gt, 0, none⟩) ct ((wr.setCell ⟨b, 0, none⟩ (.int .i64 x)).setCell ⟨b, 1, none⟩ (.int .i64 y)) := by
  obtain ⟨a1, a2, a3, a4, a5, a6, a7, a8, a9⟩ := h
  have gg : wr.grownBy ((wr.setCell ⟨b, 0, none⟩ (.int .i64 x)).setCell ⟨b, 1, none⟩ (.int .i64 y)) (some b) := only_setCell (only_setCell (World.grownBy.refl _ _) (p := ⟨b, 0, none⟩) (.inl rfl) _) (p := ⟨b, 1, none⟩) (.inl rfl) _
  refine ⟨a1, (a2.far (q := ⟨b, 0, none⟩) hp h1 _).far (q := ⟨b, 1, none⟩) hp h1 _, (a3.far (q := ⟨b, 0, none⟩) hp2 h2 _).far (q := ⟨b, 1, none⟩) hp2 h2 _, a4, own_only rfl a5 gg h3, a6, (a7.set_ (p := ⟨b, 0, none⟩) hb _).set_ (p := ⟨b, 1, none⟩) hb _, a8, a9⟩
theorem St.told {w0 wr : World} {N : Nat} {f : Int} {p2 g2 c2 p g c : Nat} {ls : List Bool} {told : List (Int × Int)} {A : Option Addr} {ct : Nat} (h : St w0 N f p2 g2 c2 p g c ls told A ct wr) (q : Nat) (hq : q < told.length) : ∃ gt x y, A = some ⟨gt, 0, none⟩ ∧ wr.cell? ⟨gt, q * 2, none⟩ = some (.int .i64 x) ∧ wr.cell? ⟨gt, q * 2 + 1, none⟩ = some (.int .i64 y) ∧ x ≤ 9223372036854775807 ∧ gt < wr.heap.size := by
  obtain ⟨_, _, _, _, h5, h6, _⟩ := h
  obtain ⟨gt, rfl⟩ : ∃ gt, A = some ⟨gt, 0, none⟩ := by
    rcases h5.2 with ⟨h1, h2⟩ | ⟨gb, _, _, h1, _⟩
    · injection h1 with _ h2 _; omega
    · injection h1 with h2 h3 h4; exact ⟨gb, h2⟩
  obtain ⟨g0, g1⟩ := fl2_get told q hq
  exact ⟨gt, told[q].1, told[q].2, rfl, by rw [h5.cellAt _ (by omega), g0], by rw [h5.cellAt _ (by omega), g1], h6 _ (List.getElem_mem hq), (h5.lt gt rfl).2⟩
theorem own_blkv {w : World} {base : Nat} {e : TypeId} {k n : Nat} {v : Value} {xs : List Value} (h : w.ownsRow base e k v n xs) : ∀ x, v.ownBlock = some x → ∃ cs, w.heap[x]? = some (.cells cs e (0, 0)) := by
  intro x hx
  rcases h.2 with ⟨rfl, _⟩ | ⟨g2, cap, cur, rfl, hb', hg', hrest⟩
  · cases hx
  · injection hx with hx
    subst hx
    exact ⟨_, hg'⟩
theorem own_row {w w' : World} {base : Nat} {e : TypeId} {k n g c : Nat} {xs : List Value} {row : Option Nat} (h : w.ownsRow base e k (.slice (some ⟨g, 0, none⟩) n c) n xs) (hg : w.grownBy w' row) (hne : some g ≠ row) : w'.ownsRow base e k (.slice (some ⟨g, 0, none⟩) n c) n xs := by
  obtain ⟨h1, h2⟩ := h
  refine ⟨h1, ?_⟩
  rcases h2 with h2 | ⟨g2, cap, cur, ha, hb', hg', hrest⟩
  · exact .inl h2
  · refine .inr ⟨g2, cap, cur, ha, hb', (hg.block g2 (Array.getElem?_eq_some_iff.1 hg').1 ?_).trans hg', hrest⟩
    injection ha with ha
    injection ha with ha
    injection ha with ha
    rw [← ha]; exact hne
theorem type_ne {w : World} {g : Nat} {row : Option Nat} {cs : Array Value} {t e : TypeId} (hb : w.heap[g]? = some (.cells cs t (0, 0))) (hr : ∀ x, row = some x → ∃ cs, w.heap[x]? = some (.cells cs e (0, 0))) (hne : t ≠ e) : some g ≠ row := by
  intro h
  obtain ⟨cs', h'⟩ := hr g h.symm
  rw [hb] at h'
  injection h' with h'
  injection h' with _ h' _
  exact hne h'
theorem Spc.row {w w' : World} {p g c : Nat} {f : Int} {l : List Bool} {row : Option Nat} (h : Spc w p f l g c) (hg : w.grownBy w' row) (hr : ∀ x, row = some x → ∃ cs, w.heap[x]? = some (.cells cs 30 (0, 0))) : Spc w' p f l g c := by
  obtain ⟨cs, hb⟩ := own_blk h.2.2
  exact ⟨h.1.grown hg (type_ne h.1 hr (by decide)), h.2.1, own_row h.2.2 hg (type_ne hb hr (by decide))⟩
theorem Spr.row {w w' : World} {p g c : Nat} {f : Int} {l : List Bool} {row : Option Nat} (h : Spr w p f l g c) (hg : w.grownBy w' row) (hr : ∀ x, row = some x → ∃ cs, w.heap[x]? = some (.cells cs 30 (0, 0))) : Spr w' p f l g c := by
  obtain ⟨cs, hb⟩ := own_blk h.2.2
  exact ⟨h.1.grown hg (type_ne h.1 hr (by decide)), h.2.1, own_row h.2.2 hg (type_ne hb hr (by decide))⟩
/-- One more is told. -/
theorem St.app {w0 wr w1 : World} {N : Nat} {f : Int} {p2 g2 c2 p g c : Nat} {ls : List Bool} {told : List (Int × Int)} {A A' : Option Addr} {ct ct' : Nat} (h : St w0 N f p2 g2 c2 p g c ls told A ct wr) (x y : Int) (hx : x ≤ 9223372036854775807) (hg : wr.grownBy w1 (Value.slice A told.length ct).ownBlock) (ho : w1.ownsRow w0.heap.size 30 2 (.slice A' (told.length + 1) ct') (told.length + 1) (fl2 told ++ [.int .i64 x, .int .i64 y])) (hb : Below w0.heap.size wr w1) : St w0 N f p2 g2 c2 p g c ls (told ++ [(x, y)]) A' ct' w1 := by
  obtain ⟨a1, a2, a3, a4, a5, a6, a7, a8, a9⟩ := h
  have hr := own_blkv a5
  refine ⟨a1, a2.row hg hr, a3.row hg hr, a4, ?_, ?_, Later.of (a7.below.trans hb), a8, a9⟩
  · rw [fl2_snoc, List.length_append]; exact ho
  · intro z hz
    rcases List.mem_append.1 hz with hz | hz
    · exact a6 z hz
    · rw [List.mem_singleton] at hz; rw [hz]; exact hx
theorem info_ext : (Tryd.prog.info? 30).map (fun i => (i.zero, i.size, i.bytes)) = some (some (.agg #[.int .i64 0, .int .i64 0]), 2, 16) := by kernel_rfl
theorem tmod_nat (r m : Nat) : (r : Int).tmod (m : Int) = ((r % m : Nat) : Int) := (Int.ofNat_tmod r m).symm

set_option maxRecDepth 100000 in
set_option maxHeartbeats 16000000 in
theorem spaceAll_walk (fr n : Int) (A : Option Addr) (len cap : Nat) (l : List Deed4) (aB aO : Addr) (w : World) (hs : S19 w aB aO) (hde : IsDeeds w A len cap l) (h40 : len ≤ 40) (h60 : n ≤ 60) (hfr : fr ≤ 1099511627776) :
    Calls Tryd.prog 3 #[.int .i64 fr, .int .i64 n, .slice A len cap] w fun e w' => e = .returned (.bool true) ∧ Later w w' := by
  have HB := Lib.hid (begun19_any aB aO w hs)
  have HS := Lib.hid hs
  have HDE := Lib.hid hde
  have d1 : decide ((40 : Int) < (len : Int)) = false := by simp; omega
  have d2 : decide ((60 : Int) < n) = false := by simp; omega
  have d3 : decide ((1099511627776 : Int) < fr) = false := by simp; omega
  obtain ⟨N, hN⟩ : ∃ N, N = newN n := ⟨_, rfl⟩
  have HN := Lib.hid (show N ≤ 60 by rw [hN]; unfold newN; omega)
  obtain ⟨f, hf⟩ : ∃ f, f = max fr 0 := ⟨_, rfl⟩
  have HF := Lib.hid (show 0 ≤ f ∧ f ≤ 1099511627776 by omega)
  have HNW := Lib.hid (fun w1 => spaceNew_any fr n w1)
  have HNR := Lib.hid (fun w1 => refNew_any fr n w1)
  rw [← hN, ← hf] at HNW HNR
  clear hs hde hN hf hfr h60
  go_enter Tryd.func3, Tryd.ntmps3
  go_wp2_with fail
  refine HB.out.mono ?_
  rintro e w1 ⟨rfl, l1⟩
  have HL1 := Lib.hid l1
  have HNW1 := Lib.hid (HNW.out w1)
  clear l1 HB HNW
  go_wp2_with fail
  refine HNW1.out.mono ?_
  rintro e w2 ⟨p, g, c, rfl, sp2, l2, _, hg⟩
  have HSP2 := Lib.hid sp2
  have HL2 := Lib.hid (HL1.out.trans l2)
  have HG := Lib.hid (show w.heap.size ≤ g by have := HL1.out.size; omega)
  have HNR1 := Lib.hid (HNR.out w2)
  clear sp2 l2 hg HNW1 HL1 HNR
  go_wp2_with fail
  refine HNR1.out.mono ?_
  rintro e w3 ⟨p2, g2, c2, rfl, sr3, l3, _, hg2⟩
  have HST := Lib.hid (show St w N f p2 g2 c2 p g c (List.replicate N false) [] none 0 w3 from ⟨List.length_replicate, HSP2.out.later l3, sr3, by have := HSP2.out.glt; omega, ownG_nil _ _ _ _, (fun x hx => (by cases hx)), HL2.out.trans l3, HG.out, by have := HL2.out.size; omega⟩)
  clear sr3 l3 hg2 HNR1 HL2 HSP2 HG
  go_wp2_with fail
  go_loopw [7, 9, 10] (fun sv tv iv wr => AI w N len f p2 g2 c2 sv tv iv wr) (fun _ _ iv _ => len - (intOf iv).toNat)
  case atStart => exact AI.mk 0 0 rfl (Nat.zero_le _) rfl (Nat.le_refl _) HST.out
  case round =>
    obtain ⟨i, tl, p, g, c, ls, told, TA, ct, rfl, rfl, rfl, hi, htl, hti, hst⟩ := hrel
    have HTL := Lib.hid htl
    clear htl
    by_cases hlt : i < len
    · obtain ⟨b, off, rfl, x0, x1, x2, x3⟩ := (HDE.out.later hst.la).2.1 i (by rw [HDE.out.1]; exact hlt)
      have h64 := HDE.out.2.2 _ (List.getElem_mem (show i < l.length by rw [HDE.out.1]; exact hlt))
      obtain ⟨dd, hdd⟩ : ∃ dd, dd = l[i]'(by rw [HDE.out.1]; exact hlt) := ⟨_, rfl⟩
      rw [← hdd] at x0 x1 x2 x3 h64
      obtain ⟨kd, kk, ea, en⟩ := dd
      have y0 : wr.cell? ⟨b, off + i * 4, none⟩ = some (.int .i64 kd) := x0
      have y1 : wr.cell? ⟨b, off + i * 4 + 1, none⟩ = some (.int .i64 kk) := x1
      have y2 : wr.cell? ⟨b, off + i * 4 + 2, none⟩ = some (.int .i64 ea) := x2
      have y3 : wr.cell? ⟨b, off + i * 4 + 3, none⟩ = some (.int .i64 en) := x3
      have HEA := Lib.hid (show ea ≤ 9223372036854775807 from h64.2.2.1.2)
      have z0 := (Blk.new wr #[.int .i64 0, .int .i64 0, .int .i64 0, .int .i64 0] 32 wr.heap.size rfl).frozen 0
      have z1 := (Blk.new wr #[.int .i64 0, .int .i64 0, .int .i64 0, .int .i64 0] 32 wr.heap.size rfl).frozen 1
      have z2 := (Blk.new wr #[.int .i64 0, .int .i64 0, .int .i64 0, .int .i64 0] 32 wr.heap.size rfl).frozen 2
      have z3 := (Blk.new wr #[.int .i64 0, .int .i64 0, .int .i64 0, .int .i64 0] 32 wr.heap.size rfl).frozen 3
      have L11 := Later.new wr (.cells #[.int .i64 kd, .int .i64 kk, .int .i64 ea, .int .i64 en] 32)
      have HST := Lib.hid (hst.later L11)
      have B11 := Blk.new wr #[.int .i64 kd, .int .i64 kk, .int .i64 ea, .int .i64 en] 32 wr.heap.size rfl
      have HB11 := Lib.hid B11
      have HBG := Lib.hid (show wr.heap.size ≠ g ∧ wr.heap.size ≠ g2 from ⟨by have := hst.sp.glt; omega, by have := hst.sr.glt; omega⟩)
      obtain ⟨w11, hw11⟩ : ∃ x, wr.alloc (.cells #[.int .i64 kd, .int .i64 kk, .int .i64 ea, .int .i64 en] 32) = x := ⟨_, rfl⟩
      rw [hw11] at HST HB11 B11
      have v0 := B11.cell 0 _ rfl
      have v1 := B11.cell 1 _ rfl
      have v2 := B11.cell 2 _ rfl
      have v3 := B11.cell 3 _ rfl
      obtain ⟨d, hd⟩ : ∃ d, kd.tmod 7 = d := ⟨_, rfl⟩
      have hdb : -7 < d ∧ d < 7 := by rw [← hd]; exact ⟨Int.lt_tmod_of_pos _ (by decide), Int.tmod_lt_of_pos _ (by decide)⟩
      obtain ⟨s, hsd⟩ : ∃ s, (d + 7).tmod 7 = s := ⟨_, rfl⟩
      have hse : s = (d + 7) % 7 := by rw [← hsd, Int.tmod_eq_emod_of_nonneg (by omega)]
      have hsb : 0 ≤ s ∧ s < 7 := by omega
      have HSE := Lib.hid (show (s = d ∨ s = d + 7) ∧ 0 ≤ s ∧ s < 7 ∧ -7 < d ∧ d < 7 by omega)
      clear hse
      have HLEN := Lib.hid hst.len
      clear hdd x0 x1 x2 x3 h64 hst L11 B11
      by_cases h3 : s = 3
      · subst h3
        go_wp2_with fail
        have st := HST.out.drew
        have B := HB11.out.drew
        go_region_held3 (fun w' => w'.cell? ⟨wr.heap.size, 2, none⟩ = some (.int .i64 ea) ∧ w'.cell? ⟨wr.heap.size, 3, none⟩ = some (.int .i64 en)) (exact ⟨B.cell 2 _ rfl, B.cell 3 _ rfl⟩) (first
          | (go_at_call 13; refine (spaceMark_any p f ls g c ea en aB aO _ st.sp (HS.out.later st.la) HF.out.1 HF.out.2 (by rw [HLEN.out]; have := HN.out; omega) HEA.out).mono ?_; rintro e wX ⟨rfl, sX, gX⟩; have B := B.grown gX (by intro h; injection h with h; exact HBG.out.1 h); have hf := st.half gX)
          | (go_at_call 14; refine (refMark_any p2 f ls g2 c2 ea en _ hf.1 HF.out.1 HF.out.2 (by rw [HLEN.out]; have := HN.out; omega) HEA.out).mono ?_; rintro e wY ⟨rfl, sY, gY⟩; have B := B.grown gY (by intro h; injection h with h; exact HBG.out.2 h); have stY := st.both gX sX (turnS_len.trans HLEN.out) sY gY))
        have HSX := Lib.hid stY
        clear stY hf sX gX sY gY st B v0 v1 v2 v3 y0 y1 y2 y3 z0 z1 z2 z3
        have HU1 := Lib.hid (spaceUsed_any p f _ g c wY HSX.out.sp (by rw [HSX.out.len]; have := HN.out; omega))
        have HU2 := Lib.hid (refUsed19_any p2 f _ g2 c2 wY HSX.out.sr (by rw [HSX.out.len]; have := HN.out; omega))
        go_wp2_with fail
        refine HU1.out.mono ?_
        rintro e w' ⟨rfl, rfl⟩
        go_wp2_with fail
        refine HU2.out.mono ?_
        rintro e w' ⟨rfl, rfl⟩
        go_wp2_with fail
        go_roundw
        case rel => exact AI.mk _ (i + 1) (by go_num) (by omega) HTL.out (by omega) HSX.out
        case measure => simp [intOf]; omega
      · by_cases h4 : s = 4 ∨ (s = 5 ∧ d ≠ 5)
        · have hd5 : (d == 5) = false := by rw [beq_eq_false_iff_ne]; have := HSE.out; omega
          have L12 := Later.new w11 (.cells #[.int .i64 ea, .int .i64 en] 30)
          have B12 := Blk.new w11 #[.int .i64 ea, .int .i64 en] 30 w11.heap.size rfl
          have u0 := (Blk.new w11 #[.int .i64 0, .int .i64 0] 30 w11.heap.size rfl).frozen 0
          have u1 := (Blk.new w11 #[.int .i64 0, .int .i64 0] 30 w11.heap.size rfl).frozen 1
          have HST12 := Lib.hid (HST.out.later L12)
          have HB12 := Lib.hid B12
          have B11X := HB11.out.later L12
          have v0' := B11X.cell 0 _ rfl
          have v1' := B11X.cell 1 _ rfl
          have HBH := Lib.hid (show w11.heap.size ≠ g ∧ w11.heap.size ≠ g2 from ⟨by have := HST.out.sp.glt; omega, by have := HST.out.sr.glt; omega⟩)
          have HWB := Lib.hid (show w.heap.size ≤ w11.heap.size from HST.out.la.size)
          have HPP := Lib.hid (show p ≠ w11.heap.size ∧ p2 ≠ w11.heap.size from ⟨by have := HST.out.sp.1.lt; omega, by have := HST.out.sr.1.lt; omega⟩)
          obtain ⟨w12, hw12⟩ : ∃ x, w11.alloc (.cells #[.int .i64 ea, .int .i64 en] 30) = x := ⟨_, rfl⟩
          rw [hw12] at HST12 HB12 v0' v1'
          rcases h4 with rfl | ⟨rfl, h5⟩
          · go_wp2_with fail
            have st := HST12.out.drew
            have B := HB12.out.drew
            go_region_held3 (fun w' => w'.cell? ⟨w11.heap.size, 0, none⟩ = some (.int .i64 ea) ∧ w'.cell? ⟨w11.heap.size, 1, none⟩ = some (.int .i64 en)) (exact ⟨B.cell 0 _ rfl, B.cell 1 _ rfl⟩) (first
              | (go_at_call 15; refine (spaceFree_any p f ls g c ea en aB aO _ st.sp (HS.out.later st.la) HF.out.1 HF.out.2 (by rw [HLEN.out]; have := HN.out; omega) HEA.out).mono ?_; rintro e wX ⟨rfl, sX, gX⟩; have B := B.grown gX (by intro h; injection h with h; exact HBH.out.1 h); have hf := st.half gX)
              | (go_at_call 16; refine (refFree_any p2 f ls g2 c2 ea en _ hf.1 HF.out.1 HF.out.2 (by rw [HLEN.out]; have := HN.out; omega) HEA.out).mono ?_; rintro e wY ⟨rfl, sY, gY⟩; have B := B.grown gY (by intro h; injection h with h; exact HBH.out.2 h); have stY := st.both gX sX (turnS_len.trans HLEN.out) sY gY))
            have HSX := Lib.hid stY
            clear stY hf sX gX sY gY st B v0 v1 v2 v3 y0 y1 y2 y3 z0 z1 z2 z3 u0 u1 v0' v1' L12 B12 B11X
            have HU1 := Lib.hid (spaceUsed_any p f _ g c wY HSX.out.sp (by rw [HSX.out.len]; have := HN.out; omega))
            have HU2 := Lib.hid (refUsed19_any p2 f _ g2 c2 wY HSX.out.sr (by rw [HSX.out.len]; have := HN.out; omega))
            go_wp2_with fail
            refine HU1.out.mono ?_
            rintro e w' ⟨rfl, rfl⟩
            go_wp2_with fail
            refine HU2.out.mono ?_
            rintro e w' ⟨rfl, rfl⟩
            go_wp2_with fail
            go_roundw
            case rel => exact AI.mk _ (i + 1) (by go_num) (by omega) HTL.out (by omega) HSX.out
            case measure => simp [intOf]; omega
          · go_wp2_with fail
            have st := HST12.out.drew
            have B := HB12.out.drew
            go_region_held3 (fun w' => w'.cell? ⟨w11.heap.size, 0, none⟩ = some (.int .i64 ea) ∧ w'.cell? ⟨w11.heap.size, 1, none⟩ = some (.int .i64 en)) (exact ⟨B.cell 0 _ rfl, B.cell 1 _ rfl⟩) (first
              | (go_at_call 15; refine (spaceFree_any p f ls g c ea en aB aO _ st.sp (HS.out.later st.la) HF.out.1 HF.out.2 (by rw [HLEN.out]; have := HN.out; omega) HEA.out).mono ?_; rintro e wX ⟨rfl, sX, gX⟩; have B := B.grown gX (by intro h; injection h with h; exact HBH.out.1 h); have hf := st.half gX)
              | (go_at_call 16; refine (refFree_any p2 f ls g2 c2 ea en _ hf.1 HF.out.1 HF.out.2 (by rw [HLEN.out]; have := HN.out; omega) HEA.out).mono ?_; rintro e wY ⟨rfl, sY, gY⟩; have B := B.grown gY (by intro h; injection h with h; exact HBH.out.2 h); have stY := st.both gX sX (turnS_len.trans HLEN.out) sY gY))
            have HSX := Lib.hid stY
            clear stY hf sX gX sY gY st B v0 v1 v2 v3 y0 y1 y2 y3 z0 z1 z2 z3 u0 u1 v0' v1' L12 B12 B11X
            have HU1 := Lib.hid (spaceUsed_any p f _ g c wY HSX.out.sp (by rw [HSX.out.len]; have := HN.out; omega))
            have HU2 := Lib.hid (refUsed19_any p2 f _ g2 c2 wY HSX.out.sr (by rw [HSX.out.len]; have := HN.out; omega))
            go_wp2_with fail
            refine HU1.out.mono ?_
            rintro e w' ⟨rfl, rfl⟩
            go_wp2_with fail
            refine HU2.out.mono ?_
            rintro e w' ⟨rfl, rfl⟩
            go_wp2_with fail
            go_roundw
            case rel => exact AI.mk _ (i + 1) (by go_num) (by omega) HTL.out (by omega) HSX.out
            case measure => simp [intOf]; omega
        · by_cases h5 : s = 5
          · obtain rfl : d = 5 := by omega
            subst h5
            clear HSE hsb hdb h3 h4
            have L12 := Later.new w11 (.cells #[.int .i64 ea, .int .i64 en] 30)
            have B12 := Blk.new w11 #[.int .i64 ea, .int .i64 en] 30 w11.heap.size rfl
            have u0 := (Blk.new w11 #[.int .i64 0, .int .i64 0] 30 w11.heap.size rfl).frozen 0
            have u1 := (Blk.new w11 #[.int .i64 0, .int .i64 0] 30 w11.heap.size rfl).frozen 1
            have HST12 := Lib.hid (HST.out.later L12)
            have HB12 := Lib.hid B12
            have B11X := HB11.out.later L12
            have v0' := B11X.cell 0 _ rfl
            have v1' := B11X.cell 1 _ rfl
            have HBH := Lib.hid (show w11.heap.size ≠ g ∧ w11.heap.size ≠ g2 from ⟨by have := HST.out.sp.glt; omega, by have := HST.out.sr.glt; omega⟩)
            have HWB := Lib.hid (show w.heap.size ≤ w11.heap.size from HST.out.la.size)
            have HPP := Lib.hid (show p ≠ w11.heap.size ∧ p2 ≠ w11.heap.size from ⟨by have := HST.out.sp.1.lt; omega, by have := HST.out.sr.1.lt; omega⟩)
            obtain ⟨w12, hw12⟩ : ∃ x, w11.alloc (.cells #[.int .i64 ea, .int .i64 en] 30) = x := ⟨_, rfl⟩
            rw [hw12] at HST12 HB12 v0' v1'
            by_cases ht0 : tl = 0
            · subst ht0
              go_wp2_with fail
              have st := HST12.out.drew
              have B := HB12.out.drew
              go_region_held3 (fun w' => w'.cell? ⟨w11.heap.size, 0, none⟩ = some (.int .i64 ea) ∧ w'.cell? ⟨w11.heap.size, 1, none⟩ = some (.int .i64 en)) (exact ⟨B.cell 0 _ rfl, B.cell 1 _ rfl⟩) (first
                | (go_at_call 15; refine (spaceFree_any p f ls g c ea en aB aO _ st.sp (HS.out.later st.la) HF.out.1 HF.out.2 (by rw [HLEN.out]; have := HN.out; omega) HEA.out).mono ?_; rintro e wX ⟨rfl, sX, gX⟩; have B := B.grown gX (by intro h; injection h with h; exact HBH.out.1 h); have hf := st.half gX)
                | (go_at_call 16; refine (refFree_any p2 f ls g2 c2 ea en _ hf.1 HF.out.1 HF.out.2 (by rw [HLEN.out]; have := HN.out; omega) HEA.out).mono ?_; rintro e wY ⟨rfl, sY, gY⟩; have B := B.grown gY (by intro h; injection h with h; exact HBH.out.2 h); have stY := st.both gX sX (turnS_len.trans HLEN.out) sY gY))
              have HSX := Lib.hid stY
              clear stY hf sX gX sY gY st B v0 v1 v2 v3 y0 y1 y2 y3 z0 z1 z2 z3 u0 u1 v0' v1' L12 B12 B11X
              have HU1 := Lib.hid (spaceUsed_any p f _ g c wY HSX.out.sp (by rw [HSX.out.len]; have := HN.out; omega))
              have HU2 := Lib.hid (refUsed19_any p2 f _ g2 c2 wY HSX.out.sr (by rw [HSX.out.len]; have := HN.out; omega))
              go_wp2_with fail
              refine HU1.out.mono ?_
              rintro e w' ⟨rfl, rfl⟩
              go_wp2_with fail
              refine HU2.out.mono ?_
              rintro e w' ⟨rfl, rfl⟩
              go_wp2_with fail
              go_roundw
              case rel => exact AI.mk _ (i + 1) (by go_num) (by omega) HTL.out (by omega) HSX.out
              case measure => simp [intOf]; omega
            · have ht1 : decide ((0 : Int) < (tl : Int)) = true := by simp; omega
              obtain ⟨r, hr, hbr⟩ := and63 kk
              obtain ⟨q, hq⟩ : ∃ q, r % tl = q := ⟨_, rfl⟩
              have hql : q < tl := by rw [← hq]; exact Nat.mod_lt _ (by omega)
              have hqi : (r : Int).tmod (tl : Int) = (q : Int) := by rw [tmod_nat, hq]
              obtain ⟨gt, qa, qn, rfl, t0, t1, hqa, hgtl⟩ := HST.out.told q (by rw [HTL.out]; exact hql)
              have t0 := L12.cell t0
              have t1 := L12.cell t1
              rw [hw12] at t0 t1
              have HQA := Lib.hid hqa
              have HGT := Lib.hid (show gt ≠ w11.heap.size by omega)
              have f0 := HB12.out.frozen 0
              have f1 := HB12.out.frozen 1
              have m0 := HB12.out.cell 0 _ rfl
              have m1 := HB12.out.cell 1 _ rfl
              clear hq hqa
              go_wp2_with fail
              have HSTW := Lib.hid (HST12.out.far2 (b := w11.heap.size) HWB.out (Ne.symm HBH.out.1) (Ne.symm HBH.out.2) (show gt ≠ w11.heap.size from HGT.out) HPP.out.1 HPP.out.2 qa qn)
              have HB13 := Lib.hid ((HB12.out.set_ 0 (.int .i64 qa)).set_ 1 (.int .i64 qn))
              obtain ⟨w13, hw13⟩ : ∃ x, ((w12.setCell ⟨w11.heap.size, 0, none⟩ (.int .i64 qa)).setCell ⟨w11.heap.size, 1, none⟩ (.int .i64 qn)) = x := ⟨_, rfl⟩
              rw [hw13] at HSTW HB13 ⊢
              clear hw13
              have st := HSTW.out.drew
              have B := HB13.out.drew
              go_region_held3 (fun w' => w'.cell? ⟨w11.heap.size, 0, none⟩ = some (.int .i64 qa) ∧ w'.cell? ⟨w11.heap.size, 1, none⟩ = some (.int .i64 qn)) (exact ⟨B.cell 0 _ rfl, B.cell 1 _ rfl⟩) (first
                | (go_at_call 15; refine (spaceFree_any p f ls g c qa qn aB aO _ st.sp (HS.out.later st.la) HF.out.1 HF.out.2 (by rw [HLEN.out]; have := HN.out; omega) HQA.out).mono ?_; rintro e wX ⟨rfl, sX, gX⟩; have B := B.grown gX (by intro h; injection h with h; exact HBH.out.1 h); have hf := st.half gX)
                | (go_at_call 16; refine (refFree_any p2 f ls g2 c2 qa qn _ hf.1 HF.out.1 HF.out.2 (by rw [HLEN.out]; have := HN.out; omega) HQA.out).mono ?_; rintro e wY ⟨rfl, sY, gY⟩; have B := B.grown gY (by intro h; injection h with h; exact HBH.out.2 h); have stY := st.both gX sX (turnS_len.trans HLEN.out) sY gY))
              have HSX := Lib.hid stY
              clear stY hf sX gX sY gY st B v0 v1 v2 v3 y0 y1 y2 y3 z0 z1 z2 z3 u0 u1 v0' v1' L12 B12 B11X f0 f1 m0 m1 t0 t1
              have HU1 := Lib.hid (spaceUsed_any p f _ g c wY HSX.out.sp (by rw [HSX.out.len]; have := HN.out; omega))
              have HU2 := Lib.hid (refUsed19_any p2 f _ g2 c2 wY HSX.out.sr (by rw [HSX.out.len]; have := HN.out; omega))
              go_wp2_with fail
              refine HU1.out.mono ?_
              rintro e w' ⟨rfl, rfl⟩
              go_wp2_with fail
              refine HU2.out.mono ?_
              rintro e w' ⟨rfl, rfl⟩
              go_wp2_with fail
              go_roundw
              case rel => exact AI.mk _ (i + 1) (by go_num) (by omega) HTL.out (by omega) HSX.out
              case measure => simp [intOf]; omega
          · by_cases h6 : s = 6
            · subst h6
              have hd5 : (d == 5) = false := by rw [beq_eq_false_iff_ne]; have := HSE.out; omega
              have HC := Lib.hid (spaceCopy_any p f ls g c w11 HST.out.sp (by rw [HLEN.out]; have := HN.out; omega))
              go_wp2_with fail
              refine HC.out.mono ?_
              rintro e wC ⟨p', g', c', rfl, sC, lC, _, hgC⟩
              have HT := Lib.hid (spaceTake_any p f ls g c 1 aB aO wC (HST.out.sp.later lC) (HS.out.later (HST.out.la.trans lC)) HF.out.1 HF.out.2 (by rw [HLEN.out]; have := HN.out; omega))
              have HSC := Lib.hid (fun wD (gD : wC.grownBy wD (some g)) => HST.out.swap lC sC hgC gD)
              clear sC lC hgC HC v0 v1 v2 v3 y0 y1 y2 y3 z0 z1 z2 z3
              go_wp2_with fail
              refine HT.out.mono ?_
              rintro e wD (⟨j, _, rfl, _, gD⟩ | ⟨_, rfl, lD⟩)
              · have HSX := Lib.hid (HSC.out wD gD)
                clear gD HSC HT
                have HU1 := Lib.hid (spaceUsed_any p' f _ g' c' wD HSX.out.sp (by rw [HSX.out.len]; have := HN.out; omega))
                have HU2 := Lib.hid (refUsed19_any p2 f _ g2 c2 wD HSX.out.sr (by rw [HSX.out.len]; have := HN.out; omega))
                go_wp2_with fail
                refine HU1.out.mono ?_
                rintro e w' ⟨rfl, rfl⟩
                go_wp2_with fail
                refine HU2.out.mono ?_
                rintro e w' ⟨rfl, rfl⟩
                go_wp2_with fail
                go_roundw
                case rel => exact AI.mk _ (i + 1) (by go_num) (by omega) HTL.out (by omega) HSX.out
                case measure => simp [intOf]; omega
              · have HSX := Lib.hid (HSC.out wD (lD.grown _))
                clear lD HSC HT
                have HU1 := Lib.hid (spaceUsed_any p' f _ g' c' wD HSX.out.sp (by rw [HSX.out.len]; have := HN.out; omega))
                have HU2 := Lib.hid (refUsed19_any p2 f _ g2 c2 wD HSX.out.sr (by rw [HSX.out.len]; have := HN.out; omega))
                go_wp2_with fail
                refine HU1.out.mono ?_
                rintro e w' ⟨rfl, rfl⟩
                go_wp2_with fail
                refine HU2.out.mono ?_
                rintro e w' ⟨rfl, rfl⟩
                go_wp2_with fail
                go_roundw
                case rel => exact AI.mk _ (i + 1) (by go_num) (by omega) HTL.out (by omega) HSX.out
                case measure => simp [intOf]; omega
            · have e3 : (s == 3) = false := by rw [beq_eq_false_iff_ne]; exact h3
              have e4 : (s == 4) = false := by rw [beq_eq_false_iff_ne]; omega
              have e5 : (s == 5) = false := by rw [beq_eq_false_iff_ne]; exact h5
              have e6 : (s == 6) = false := by rw [beq_eq_false_iff_ne]; exact h6
              have HT := Lib.hid (spaceTake_any p f ls g c kk aB aO w11 HST.out.sp (HS.out.later HST.out.la) HF.out.1 HF.out.2 (by rw [HLEN.out]; have := HN.out; omega))
              obtain ⟨o, ho⟩ : ∃ o, fstS ls kk = o := ⟨_, rfl⟩
              have HO := Lib.hid ho
              rw [ho] at HT
              clear ho
              go_wp2_with fail
              refine HT.out.mono ?_
              intro e wE hE
              clear v0 v1 v2 v3 y0 y1 y2 y3 z0 z1 z2 z3
              rcases o with _ | j
              · obtain ⟨rfl, lE⟩ := hE.no
                have L14 := lE.alloc (.cells #[.int .i64 0, .int .i64 0] 30)
                have HS14 := Lib.hid (HST.out.later L14)
                have B11X := HB11.out.later L14
                have v1 := B11X.cell 1 _ rfl
                have HQ := Lib.hid (refTake_any p2 f ls g2 c2 kk _ HS14.out.sr HF.out.1 HF.out.2 (by rw [HLEN.out]; have := HN.out; omega))
                rw [HO.out] at HQ
                have HB14 := Lib.hid (Blk.new wE #[.int .i64 0, .int .i64 0] 30 wE.heap.size rfl)
                have HBH := Lib.hid (show wE.heap.size ≠ g2 from by have := (HST.out.later lE).sr.glt; omega)
                clear hE lE L14 B11X HT
                go_wp2_with fail
                refine HQ.out.mono ?_
                intro e wR hR
                obtain ⟨rfl, sR, gR⟩ := hR.no
                have B14 := HB14.out.grown gR (by intro h; injection h with h; exact HBH.out h)
                have B16 := Blk.new wR #[.int .i64 0, .int .i64 0] 30 wR.heap.size rfl
                have B14' := B14.later (Later.new wR (.cells #[.int .i64 0, .int .i64 0] 30))
                have b0 := B14'.cell 0 _ rfl
                have b1 := B14'.cell 1 _ rfl
                have c0 := B16.cell 0 _ rfl
                have c1 := B16.cell 1 _ rfl
                have HSX := Lib.hid ((HS14.out.both (World.grownBy.refl _ _) HS14.out.sp HLEN.out sR gR).later (Later.new wR (.cells #[.int .i64 0, .int .i64 0] 30)))
                clear hR sR gR B14 B16 B14' v1
                go_wp2_with fail
                clear b0 b1 c0 c1
                have HU1 := Lib.hid (spaceUsed_any p f _ g c _ HSX.out.sp (by rw [HSX.out.len]; have := HN.out; omega))
                have HU2 := Lib.hid (refUsed19_any p2 f _ g2 c2 _ HSX.out.sr (by rw [HSX.out.len]; have := HN.out; omega))
                go_wp2_with fail
                refine HU1.out.mono ?_
                rintro e w' ⟨rfl, rfl⟩
                go_wp2_with fail
                refine HU2.out.mono ?_
                rintro e w' ⟨rfl, rfl⟩
                go_wp2_with fail
                go_roundw
                case rel => exact AI.mk _ (i + 1) (by go_num) (by omega) HTL.out (by omega) HSX.out
                case measure => simp [intOf]; omega
              · obtain ⟨rfl, sE, gE⟩ := hE.yes
                obtain ⟨m, hkm, hm1, hok, _⟩ := fstS_inv HO.out
                have hlen' : (setL ls j kk.toNat true).length = N := by rw [setL_len true (by rw [hkm, Int.toNat_natCast]; exact hok.1)]; exact HLEN.out
                obtain ⟨q, hq⟩ : ∃ q, f + (j : Int) = q := ⟨_, rfl⟩
                have HQB := Lib.hid (show q ≤ 9223372036854775807 by have := HF.out.2; have := hok.1; have := HLEN.out; have := HN.out; omega)
                have HQ2 := Lib.hid hq
                rw [hq]
                have hfE := HST.out.half gE
                have B11E := HB11.out.grown gE (by intro h; injection h with h; exact HBG.out.1 h)
                have L14 := Later.new wE (.cells #[.int .i64 q, .int .i64 kk] 30)
                have HG14 := Lib.hid (only_trans gE (L14.grown (some g)))
                have HS14 := Lib.hid (sE.later L14)
                have HR14 := Lib.hid (hfE.1.later L14)
                have B11X := B11E.later L14
                have v1 := B11X.cell 1 _ rfl
                have HB14 := Lib.hid (Blk.new wE #[.int .i64 q, .int .i64 kk] 30 wE.heap.size rfl)
                have HBH := Lib.hid (show wE.heap.size ≠ g2 from by have := hfE.1.glt; omega)
                have HLN := Lib.hid hlen'
                obtain ⟨w14, hw14⟩ : ∃ x, wE.alloc (.cells #[.int .i64 q, .int .i64 kk] 30) = x := ⟨_, rfl⟩
                rw [hw14] at HG14 HS14 HR14 v1 HB14
                have HQ := Lib.hid (refTake_any p2 f ls g2 c2 kk w14 HR14.out HF.out.1 HF.out.2 (by rw [HLEN.out]; have := HN.out; omega))
                rw [HO.out] at HQ
                clear hE sE gE hok hkm hm1 hlen' hq hfE B11E L14 B11X HT
                go_wp2_with fail
                refine HQ.out.mono ?_
                intro e wR hR
                obtain ⟨rfl, sR, gR⟩ := hR.yes
                rw [HQ2.out]
                have B14 := HB14.out.grown gR (by intro h; injection h with h; exact HBH.out h)
                have L16 := Later.new wR (.cells #[.int .i64 q, .int .i64 kk] 30)
                have B16 := Blk.new wR #[.int .i64 q, .int .i64 kk] 30 wR.heap.size rfl
                have B14' := B14.later L16
                have stR := (HST.out.both HG14.out HS14.out HLN.out sR gR).later L16
                obtain ⟨w16, hw16⟩ : ∃ x, wR.alloc (.cells #[.int .i64 q, .int .i64 kk] 30) = x := ⟨_, rfl⟩
                rw [hw16] at B16 B14' stR
                have b0 := B14'.cell 0 _ rfl
                have b1 := B14'.cell 1 _ rfl
                have c0 := B16.cell 0 _ rfl
                have c1 := B16.cell 1 _ rfl
                have L17 := Later.new w16 (.cells #[.int .i64 q, .int .i64 kk] 30)
                have HS17 := Lib.hid (stR.later L17)
                have HOW := Lib.hid (show (w16.alloc (.cells #[.int .i64 q, .int .i64 kk] 30)).ownsRow w.heap.size 30 2 (.slice TA tl ct) tl (fl2 told) by have := HS17.out.2.2.2.2.1; rw [HTL.out] at this; exact this)
                have HLIT := Lib.hid (show Has (w16.alloc (.cells #[.int .i64 q, .int .i64 kk] 30)) (some ⟨w16.heap.size, 0, none⟩) [.int .i64 q, .int .i64 kk] from Or.inr ⟨w16.heap.size, 0, rfl, (Blk.new w16 #[.int .i64 q, .int .i64 kk] 30 w16.heap.size rfl).lt, fun k v hv => by
                  rw [Nat.zero_add]
                  exact (Blk.new w16 #[.int .i64 q, .int .i64 kk] 30 w16.heap.size rfl).cell k v (by simpa using hv)⟩)
                have htl40 : tl ≤ 40 := by omega
                have HTLB := Lib.hid htl40
                have hszb : w.heap.size ≤ (w16.alloc (.cells #[.int .i64 q, .int .i64 kk] 30)).heap.size := HS17.out.la.size
                have HSZ := Lib.hid hszb
                clear hR sR gR B14 L16 B16 B14' stR L17 hszb v1 htl40
                go_wp2_with (at_builtin; refine wpList_append_g _ rfl (.tmp 78) (.tmp 80) 28 rfl w.heap.size 30 (.agg #[.int .i64 0, .int .i64 0]) 2 16 Tryd.underlying28 info_ext rfl (by decide) _ tl (fl2 told) rfl HOW.out _ 1 1 [.int .i64 q, .int .i64 kk] rfl HLIT.out rfl (by intro h; cases h) (fl2_one [(q, kk)]) (by have := HTLB.out; unfold maxLen; omega) (by have := HTLB.out; omega) HSZ.out ?_; intro A2 c2' wZ o2 g2' b2 n2; have HSX := Lib.hid (HS17.out.app q kk HQB.out (by rw [HTL.out]; exact g2') (by rw [HTL.out]; exact o2) b2); clear o2 g2' b2 n2)
                clear b0 b1 c0 c1
                have HU1 := Lib.hid (spaceUsed_any p f _ g c _ HSX.out.sp (by rw [HSX.out.len]; have := HN.out; omega))
                have HU2 := Lib.hid (refUsed19_any p2 f _ g2 c2 _ HSX.out.sr (by rw [HSX.out.len]; have := HN.out; omega))
                go_wp2_with fail
                refine HU1.out.mono ?_
                rintro e w' ⟨rfl, rfl⟩
                go_wp2_with fail
                refine HU2.out.mono ?_
                rintro e w' ⟨rfl, rfl⟩
                go_wp2_with fail
                go_roundw
                case rel => exact AI.mk _ (i + 1) (by go_num) (by omega) (by rw [List.length_append, HTL.out]; rfl) (by omega) HSX.out
                case measure => simp [intOf]; omega
    · obtain rfl : i = len := by omega
      have HLA := Lib.hid hst.la
      have HT := Lib.hid (spaceTake_low (.pointer none) 1 wr (.inl rfl))
      have HS4 := Lib.hid (HS.out.later hst.la)
      clear hst
      go_wp2_with fail
      refine HT.out.mono ?_
      rintro e w4 ⟨rfl, l4⟩
      have L4 := Lib.hid (l4.alloc (.cells #[.int .i64 0, .int .i64 0] 30))
      have HM := Lib.hid (nilMark_any 1 1 aB aO _ (HS4.out.later L4.out))
      clear l4 HT
      go_wp2_with fail
      refine HM.out.mono ?_
      rintro e w5 ⟨rfl, l5⟩
      have L5 := Lib.hid (L4.out.trans l5)
      have HFR := Lib.hid (nilFree_any 1 1 aB aO w5 (HS4.out.later L5.out))
      clear l5 HM L4
      go_wp2_with fail
      refine HFR.out.mono ?_
      rintro e w6 ⟨rfl, l6⟩
      have L6 := Lib.hid (L5.out.trans l6)
      have HU := Lib.hid (nilUsed_any w6)
      have HC := Lib.hid (nilCopy_any w6)
      clear l6 HFR L5
      go_wp2_with fail
      refine HU.out.mono ?_
      rintro e w' ⟨rfl, rfl⟩
      go_wp2_with fail
      refine HC.out.mono ?_
      rintro e w' ⟨rfl, rfl⟩
      go_wp2_with fail
      go_ret
      exact ⟨rfl, HLA.out.trans L6.out⟩
end Go.Proofs.YtnmldploafpbdaaDoor
