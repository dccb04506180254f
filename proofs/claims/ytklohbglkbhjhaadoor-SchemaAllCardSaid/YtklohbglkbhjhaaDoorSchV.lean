/- schema: drop, add. (tools/gen_schV.py) -/
import Derived.Test.YtklohbglkbhjhaaDoorSchU
namespace Go.Proofs.YtklohbglkbhjhaaDoor
open Go.RowKit
set_option linter.unusedVariables false

theorem own_typ {w : World} {base : Nat} {e : TypeId} {size n c g : Nat} {xs : List Value} (h : w.ownsRow base e size (.slice (some ⟨g, 0, none⟩) n c) n xs) : ∃ cur, w.heap[g]? = some (.cells cur e (0, 0)) := by
  rcases h.2 with ⟨hv, _⟩ | ⟨g', cp, cur, hv, hb, hg, hrest⟩
  · cases hv
  · injection hv with e1
    injection e1 with e1
    injection e1 with e1
    subst e1
    exact ⟨cur, hg⟩
theorem ne_typ {w : World} {g g' : Nat} {c c' : Array Value} {t t' : TypeId} (h : w.heap[g]? = some (.cells c t (0, 0))) (h' : w.heap[g']? = some (.cells c' t' (0, 0))) (ht : t ≠ t') : g ≠ g' := by
  intro e
  subst e
  rw [h] at h'
  injection h' with h'
  injection h' with e1 e2
  exact ht e2
/-- Columns are turned, their slice is written. -/
structure TC (B p : Nat) (w : World) (s : St3) (c : Chg) (l : List Col3) (gv vc ge ec : Nat) : Prop where
  blk : Blk w p ((tcells s c gv vc ge ec).setIfInBounds 0 (.slice (some ⟨gv, 0, none⟩) l.length vc)) 78
  cols : w.ownsRow B 59 3 (.slice (some ⟨gv, 0, none⟩) l.length vc) l.length (fc l)
  encs : w.ownsRow B 3 1 (.slice (some ⟨ge, 0, none⟩) s.2.2.enc.length ec) s.2.2.enc.length (ein s.2.2.enc)
  hp : B ≤ p
theorem TC.later {B p : Nat} {w w' : World} {s : St3} {c : Chg} {l : List Col3} {gv vc ge ec : Nat} (h : TC B p w s c l gv vc ge ec) (k : Later w w') : TC B p w' s c l gv vc ge ec :=
  ⟨h.blk.later k, own_later h.cols k, own_later h.encs k, h.hp⟩
theorem TS.toTC {B p : Nat} {w w2 : World} {s : St3} {c : Chg} {gv vc ge ec gv' vc' : Nat} (h : TS B p w s c gv vc ge ec) (l : List Col3) (o : w2.ownsRow B 59 3 (.slice (some ⟨gv', 0, none⟩) l.length vc') l.length (fc l)) (g : w.grownBy w2 (some gv)) :
    TC B p (w2.setCell ⟨p, 0, none⟩ (.slice (some ⟨gv', 0, none⟩) l.length vc')) s c l gv' vc' ge ec := by
  have b2 : Blk w2 p (tcells s c gv vc ge ec) 78 := (g.block p h.blk.lt (fun e => by injection e with e; exact h.ne1 e.symm)).trans h.blk
  obtain ⟨cur, hcur⟩ := own_typ o
  have hne : gv' ≠ p := ne_typ hcur b2 (by decide)
  have e2 := own_apart h.encs g (fun q hq e => by injection hq with hq; injection e with e; exact h.ne3 (e.symm.trans hq.symm))
  refine ⟨?_, ?_, ?_, h.hp⟩
  · have hb := b2.set_ 0 (.slice (some ⟨gv', 0, none⟩) l.length vc')
    have e : (tcells s c gv vc ge ec).setIfInBounds 0 (.slice (some ⟨gv', 0, none⟩) l.length vc') = (tcells s c gv' vc' ge ec).setIfInBounds 0 (.slice (some ⟨gv', 0, none⟩) l.length vc') := rfl
    rw [← e]; exact hb
  · exact own_apart o (only_setCell (g := p) (World.grownBy.refl _ _) (.inl rfl) _) (fun q hq e => by injection hq with hq; injection e with e; exact hne (hq.trans e))
  · exact own_apart e2 (only_setCell (g := p) (World.grownBy.refl _ _) (.inl rfl) _) (fun q hq e => by injection hq with hq; injection e with e; exact h.ne2 (hq.trans e))
theorem TC.toTS {B p : Nat} {w w2 : World} {s : St3} {c : Chg} {l : List Col3} {gv vc ge ec ge' ec' : Nat} (h : TC B p w s c l gv vc ge ec) (en : List Int) (o : w2.ownsRow B 3 1 (.slice (some ⟨ge', 0, none⟩) en.length ec') en.length (ein en)) (g : w.grownBy w2 (some ge)) (hlen : en.length = l.length) (hsm : 1 ≤ l.length ∧ l.length ≤ 6) (hls : 1 ≤ s.2.1 ∧ s.2.1 ≤ 10000) :
    TS B p (w2.setCell ⟨p, 5, none⟩ (.slice (some ⟨ge', 0, none⟩) en.length ec')) (l, s.2.1, { s.2.2 with enc := en }) c gv vc ge' ec' := by
  obtain ⟨cure, hcure⟩ := own_typ h.encs
  obtain ⟨curv, hcurv⟩ := own_typ h.cols
  have n1 : ge ≠ p := ne_typ hcure h.blk (by decide)
  have n2 : gv ≠ ge := ne_typ hcurv hcure (by decide)
  have n3 : gv ≠ p := ne_typ hcurv h.blk (by decide)
  have b2 := (g.block p h.blk.lt (fun e => by injection e with e; exact n1 e.symm)).trans h.blk
  have c2 := own_apart h.cols g (fun q hq e => by injection hq with hq; injection e with e; exact n2 (hq.trans e))
  obtain ⟨cur, hcur⟩ := own_typ o
  obtain ⟨curv2, hcurv2⟩ := own_typ c2
  have hne : ge' ≠ p := ne_typ hcur b2 (by decide)
  have hne2 : gv ≠ ge' := ne_typ hcurv2 hcur (by decide)
  refine ⟨?_, ?_, ?_, n3, hne, hne2, h.hp, hlen, hsm, hls⟩
  · exact Blk.set_ b2 5 (.slice (some ⟨ge', 0, none⟩) en.length ec')
  · exact own_apart c2 (only_setCell (g := p) (World.grownBy.refl _ _) (.inl rfl) _) (fun q hq e => by injection hq with hq; injection e with e; exact n3 (hq.trans e))
  · exact own_apart o (only_setCell (g := p) (World.grownBy.refl _ _) (.inl rfl) _) (fun q hq e => by injection hq with hq; injection e with e; exact hne (hq.trans e))
theorem TC.d5 {B p : Nat} {w : World} {s : St3} {c : Chg} {l : List Col3} {gv vc ge ec : Nat} (h : TC B p w s c l gv vc ge ec) : w.cell? ⟨p, 5, none⟩ = some (.slice (some ⟨ge, 0, none⟩) s.2.2.enc.length ec) := h.blk.cell 5 _ rfl
theorem grow_later {W0 w w2 : World} {g : Nat} (h : Later W0 w) (k : w.grownBy w2 (some g)) (hg : W0.heap.size ≤ g) : Later W0 w2 := Below.grown h k h.size (fun q e => by injection e with e; omega)
theorem eraseIdx_len {α : Type} (l : List α) (i : Nat) (h : i < l.length) : (l.eraseIdx i).length = l.length - 1 := by rw [List.length_eraseIdx, if_pos h]

set_option maxRecDepth 100000 in
set_option maxHeartbeats 4000000 in
theorem drop_any (W0 : World) (p : Nat) (w : World) (f : Int → Addr) (s : St3) (c : Chg) (gv vc ge ec i : Nat) (hs : S15 W0 f) (hl : Later W0 w) (T : TS W0.heap.size p w s c gv vc ge ec) (hi : i < s.1.length) :
    Calls Tryd.prog 74 #[.pointer (some ⟨p, 0, none⟩), .int .i64 i] w (TurnP W0 p f (dropM s c i)) := by
  have d0 := T.d0
  have HT := Lib.hid T
  have HS := Lib.hid (hs.later hl)
  have HL := Lib.hid hl
  have HI := Lib.hid hi
  have x1 := HS.out.c1
  have hsm := T.small
  by_cases h1 : s.1.length = 1
  · have HX := Lib.hid (show dropM s c i = .error 1 from if_pos (.inl h1))
    have h1i : ((s.1.length : Int) == 1) = true := by simp; omega
    clear hs hl T h1 hi HT
    go_enter Tryd.func74, Tryd.ntmps74
    go_wp2_with (go_at_call 60; refine (at_er _ _ _ _).mono ?_; rintro e w3 ⟨v, rfl, hv, l3⟩; have HV := Lib.hid hv; have HL3 := Lib.hid (HL.out.trans l3); clear hv l3)
    all_goals (try go_wp2_with fail)
    all_goals go_ret
    all_goals exact TurnP.no 1 HX.out (by decide) HV.out HL3.out
  have h1i : ((s.1.length : Int) == 1) = false := by simp; omega
  have HLD := Lib.hid (laid_any W0.heap.size p w s c gv vc ge ec T)
  have HH1 := Lib.hid h1
  clear hs hl T h1 hi
  go_enter Tryd.func74, Tryd.ntmps74
  go_wp2_with fail
  refine HLD.out.mono ?_
  rintro e w2 ⟨rfl, l2⟩
  clear HLD
  have HL2 := Lib.hid (HL.out.trans l2)
  by_cases hh : heldM s c
  · have HX := Lib.hid (show dropM s c i = .error 1 from if_pos (.inr hh))
    have hd : decide (heldM s c) = true := decide_eq_true hh
    rw [hd]
    have x1 := (HS.out.later l2).c1
    clear hh hd l2 HT
    go_wp2_with (go_at_call 60; refine (at_er _ _ _ _).mono ?_; rintro e w3 ⟨v, rfl, hv, l3⟩; have HV := Lib.hid hv; have HL3 := Lib.hid (HL2.out.trans l3); clear hv l3)
    all_goals (try go_wp2_with fail)
    all_goals go_ret
    all_goals exact TurnP.no 1 HX.out (by decide) HV.out HL3.out
  have HX := Lib.hid (show dropM s c i = .ok (s.1.eraseIdx i, s.2.1, { s.2.2 with enc := s.2.2.enc.eraseIdx i }) from if_neg (fun h => by rcases h with h | h; exact HH1.out h; exact hh h))
  have hd : decide (heldM s c) = false := decide_eq_false hh
  rw [hd]
  have HT2 := Lib.hid (HT.out.later l2)
  have d0 := HT2.out.d0
  have hwi : IntKind.i64.wrap ((i : Int) + 1) = (i : Int) + 1 := IntWalk.i64_in _ ⟨by omega, by have := HI.out; omega⟩
  have hi6 : (i : Int) + 1 ≤ 7 := by have := HI.out; omega
  have HD := Lib.hid (delete1_anyC W0.heap.size gv s.1.length vc i s.1 w2 HT2.out.cols rfl HI.out (by omega))
  clear hh hd l2 HT HS x1
  go_wp2_with fail
  refine HD.out.mono ?_
  rintro e w3 ⟨rfl, o3, g3⟩
  rw [← eraseIdx_len s.1 i HI.out] at o3 ⊢
  have HTC := Lib.hid (HT2.out.toTC (s.1.eraseIdx i) o3 g3)
  have hz : w3.frozen? ⟨p, 0, none⟩ = false := by
    have b2 : Blk w3 p (tcells s c gv vc ge ec) 78 := (g3.block p HT2.out.blk.lt (fun e => by injection e with e; exact HT2.out.ne1 e.symm)).trans HT2.out.blk
    exact b2.frozen 0
  have hz2 : ∃ u, w3.cell? ⟨p, 0, none⟩ = some u := by
    have b2 : Blk w3 p (tcells s c gv vc ge ec) 78 := (g3.block p HT2.out.blk.lt (fun e => by injection e with e; exact HT2.out.ne1 e.symm)).trans HT2.out.blk
    exact ⟨_, b2.cell 0 _ rfl⟩
  obtain ⟨u0, hz2⟩ := hz2
  have HL3 := Lib.hid (grow_later HL2.out g3 HT2.out.gv)
  obtain ⟨w4, hw4⟩ : ∃ x, w3.setCell ⟨p, 0, none⟩ (.slice (some ⟨gv, 0, none⟩) (s.1.eraseIdx i).length vc) = x := ⟨_, rfl⟩
  have HL4 := Lib.hid (show Later W0 w4 from hw4 ▸ HL3.out.set_ HT2.out.hp _)
  rw [hw4] at HTC
  have d5 := HTC.out.d5
  have HLE := Lib.hid HT2.out.lens
  have HD2 := Lib.hid (delete1_anyI W0.heap.size ge s.2.2.enc.length ec i s.2.2.enc w4 HTC.out.encs rfl (by rw [HLE.out]; exact HI.out) (by rw [HLE.out]; omega))
  have HLS := Lib.hid HT2.out.last
  clear o3 g3 HD HT2 d0
  go_wp2_with fail
  refine HD2.out.mono ?_
  rintro e w5 ⟨rfl, o5, g5⟩
  rw [← eraseIdx_len s.2.2.enc i (by rw [HLE.out]; exact HI.out)] at o5 ⊢
  have HTS := Lib.hid (HTC.out.toTS (s.2.2.enc.eraseIdx i) o5 g5 (by rw [eraseIdx_len _ _ (by rw [HLE.out]; exact HI.out), eraseIdx_len _ _ HI.out, HLE.out]) (by rw [eraseIdx_len _ _ HI.out]; have := HH1.out; omega) HLS.out)
  have hb5 := (g5.block p HTC.out.blk.lt (fun e => by injection e with e; obtain ⟨cu, hcu⟩ := own_typ HTC.out.encs; exact ne_typ hcu HTC.out.blk (by decide) e.symm)).trans HTC.out.blk
  have hz : w5.frozen? ⟨p, 5, none⟩ = false := Blk.frozen hb5 5
  have hz5 : w5.cell? ⟨p, 5, none⟩ = some (.slice (some ⟨ge, 0, none⟩) s.2.2.enc.length ec) := Blk.cell hb5 5 _ rfl
  have HL5 := Lib.hid (show Later W0 (w5.setCell ⟨p, 5, none⟩ (.slice (some ⟨ge, 0, none⟩) (s.2.2.enc.eraseIdx i).length ec)) from (grow_later HL4.out g5 (own_capG HTC.out.encs).2.2.1).set_ HTC.out.hp _)
  clear o5 g5 hb5 HD2 HTC hw4
  go_wp2_with fail
  go_ret
  exact TurnP.yes HX.out HTS.out HL5.out

theorem insA_end {α : Type} (l : List α) (x : α) : insA l l.length x = l ++ [x] := by unfold insA; simp
theorem insertC (base g n c i b vc : Nat) (z : Int) (xs : List Col3) (x : Col3) (w : World) (ho : w.ownsRow base 59 3 (.slice (some ⟨g, 0, none⟩) n c) n (fc xs)) (hn : n = xs.length) (hz : z = (i : Int)) (hi : i ≤ n) (hl : n ≤ 1000) (hv : Blk w b (encC x).toArray 59) (hbg : b ≠ g) (hb : base ≤ w.heap.size) :
    Calls Tryd.prog 89 #[.slice (some ⟨g, 0, none⟩) n c, .int .i64 z, .slice (some ⟨b, 0, none⟩) 1 vc] w (InsPC (insA xs i x) base g w) := by
  rcases Nat.lt_or_ge i n with h | h
  · exact insert_midC base g n c i b vc z xs x w ho hn hz h hl hv hbg hb
  · obtain rfl : i = n := by omega
    rw [hn, insA_end, ← hn]
    exact insert_endC base g i c b 0 vc z xs x w ho hn hz hl hv.has hb
theorem insertI (base g n c i b vc : Nat) (z : Int) (xs : List Int) (x : Int) (w : World) (ho : w.ownsRow base 3 1 (.slice (some ⟨g, 0, none⟩) n c) n (ein xs)) (hn : n = xs.length) (hz : z = (i : Int)) (hi : i ≤ n) (hl : n ≤ 1000) (hv : Blk w b (encI x).toArray 3) (hbg : b ≠ g) (hb : base ≤ w.heap.size) :
    Calls Tryd.prog 90 #[.slice (some ⟨g, 0, none⟩) n c, .int .i64 z, .slice (some ⟨b, 0, none⟩) 1 vc] w (InsPI (insA xs i x) base g w) := by
  rcases Nat.lt_or_ge i n with h | h
  · exact insert_midI base g n c i b vc z xs x w ho hn hz h hl hv hbg hb
  · obtain rfl : i = n := by omega
    rw [hn, insA_end, ← hn]
    exact insert_endI base g i c b 0 vc z xs x w ho hn hz hl hv.has hb

set_option maxRecDepth 100000 in
set_option maxHeartbeats 4000000 in
theorem add_any (W0 : World) (p : Nat) (w : World) (f : Int → Addr) (s : St3) (c : Chg) (gv vc ge ec i : Nat) (hs : S15 W0 f) (hl : Later W0 w) (T : TS W0.heap.size p w s c gv vc ge ec) (hi : i ≤ s.1.length) (hnm : c.name.size ≤ 9223372036854775807) (h3 : S3 W0) :
    Calls Tryd.prog 79 #[.pointer (some ⟨p, 0, none⟩), .int .i64 i] w (TurnP W0 p f (addM s c c.typ c.val i)) := by
  have d8 := T.d8
  have d9 := T.d9
  have HT := Lib.hid T
  have HS := Lib.hid (hs.later hl)
  have H3 := Lib.hid (h3.later hl)
  have HL := Lib.hid hl
  have HI := Lib.hid hi
  have x1 := HS.out.c1
  have HNC := Lib.hid (mayName_any c.name w hnm)
  have hsm := T.small
  clear hs hl T hnm hi h3
  go_enter Tryd.func79, Tryd.ntmps79
  go_wp2_with fail
  refine HNC.out.mono ?_
  clear HNC
  by_cases hn : NameL c.name
  rotate_left
  · rintro e w2 ht
    obtain ⟨rfl, l2⟩ := ht.no hn
    have HX := Lib.hid (show addM s c c.typ c.val i = .error 1 from if_pos (fun h => hn h.1))
    have HL2 := Lib.hid (HL.out.trans l2)
    have x1 := (HS.out.later l2).c1
    have d9 := l2.cell d9
    clear hn ht l2 HT HS
    go_wp2_with fail
    go_region_law (go_simp; go_at_call 60; refine (at_er _ _ _ _).mono ?_; rintro e w3 ⟨v, rfl, hv, l3⟩; have HV := Lib.hid hv; have HL3 := Lib.hid (HL2.out.drew.trans l3); clear hv l3)
    all_goals (try go_wp2_with fail)
    all_goals go_ret
    all_goals exact TurnP.no 1 HX.out (by decide) HV.out HL3.out
  rintro e w2 ht
  obtain ⟨rfl, l2⟩ := ht.yes hn
  have HTC := Lib.hid (isType_any c.typ w2)
  have d9 := l2.cell d9
  have HL2 := Lib.hid (HL.out.trans l2)
  have HS2 := Lib.hid (HS.out.later l2)
  have H32 := Lib.hid (H3.out.later l2)
  have HT2 := Lib.hid (HT.out.later l2)
  have HN := Lib.hid hn
  clear ht l2 HT HS H3 HL d8 x1 hn
  go_wp2_with fail
  refine HTC.out.mono ?_
  clear HTC
  by_cases hty : TypL c.typ
  rotate_left
  · rintro e w3 ht
    obtain ⟨rfl, l3⟩ := ht.no hty
    have HX := Lib.hid (show addM s c c.typ c.val i = .error 1 from if_pos (fun h => hty h.2))
    have HL3' := Lib.hid (HL2.out.trans l3)
    have x1 := (HS2.out.later l3).c1
    have d9 := l3.cell d9
    clear hty ht l3 HT2 HS2
    go_wp2_with fail
    go_region_law (go_simp; go_at_call 60; refine (at_er _ _ _ _).mono ?_; rintro e w4 ⟨v, rfl, hv, l4⟩; have HV := Lib.hid hv; have HL3 := Lib.hid (HL3'.out.drew.trans l4); clear hv l4)
    all_goals (try go_wp2_with fail)
    all_goals go_ret
    all_goals exact TurnP.no 1 HX.out (by decide) HV.out HL3.out
  rintro e w3 ht
  obtain ⟨rfl, l3⟩ := ht.yes hty
  have HM := Lib.hid (show addM s c c.typ c.val i = (if (findC s.1 c.name).isSome = true then .error 9 else if ¬ FitsV c.typ c.val then .error 4 else if 6 ≤ s.1.length ∨ 10000 ≤ s.2.1 then .error 6 else .ok (insA s.1 i (s.2.1 + 1, c.name, c.typ), s.2.1 + 1, { s.2.2 with enc := insA s.2.2.enc i 1 })) from if_neg (fun h => h ⟨HN.out, hty⟩))
  have HL3' := Lib.hid (HL2.out.trans l3)
  have HS3 := Lib.hid (HS2.out.later l3)
  have H33 := Lib.hid (H32.out.later l3)
  have HT3 := Lib.hid (HT2.out.later l3)
  clear ht l3 HT2 HS2 H32 HL2 d9 hty HN
  have k0 := cell_regrown HT3.out.d0
  have k1 := cell_regrown HT3.out.d1
  have k8 := cell_regrown HT3.out.d8
  have HFQ := Lib.hid (find_q (some ⟨gv, 0, none⟩) s.1.length vc s.2.1 s.1 c.name w3 rfl (by omega) (Has.ownG HT3.out.cols))
  go_wp2_with fail
  refine wp_region_quiet_below (by kernel_rfl) (by kernel_rfl) ?_
  repeat (quiet_step (exact HFQ.out _ _))
  refine wpQuiet_nil ?_
  intro _ hw'
  obtain ⟨⟨dq, osq⟩, hw''⟩ := hw'
  subst hw''
  have l4 := below_regrown w3 dq osq
  generalize Go.Sort.grow (redrawn w3 dq) osq = w4 at l4
  have HT4 := Lib.hid (HT3.out.later l4)
  have HL4' := Lib.hid (HL3'.out.trans l4)
  have HS4 := Lib.hid (HS3.out.later l4)
  have H34 := Lib.hid (H33.out.later l4)
  clear k0 k1 k8 HFQ l4 HT3 HL3' HS3 H33
  rcases hfc : findC s.1 c.name with _ | k
  rotate_left
  · have HX := Lib.hid (show addM s c c.typ c.val i = .error 9 from HM.out.trans (if_pos (by rw [hfc]; rfl)))
    simp only [Option.getD_some, Option.isSome_some]
    have x9 := HS4.out.c9
    clear hfc HM
    go_wp2_with (go_at_call 60; refine (at_er _ _ _ _).mono ?_; rintro e w5 ⟨v, rfl, hv, l5⟩; have HV := Lib.hid hv; have HL3 := Lib.hid (HL4'.out.trans l5); clear hv l5)
    all_goals (try go_wp2_with fail)
    all_goals go_ret
    all_goals exact TurnP.no 9 HX.out (by decide) HV.out HL3.out
  have HM2 := Lib.hid (show addM s c c.typ c.val i = (if ¬ FitsV c.typ c.val then .error 4 else if 6 ≤ s.1.length ∨ 10000 ≤ s.2.1 then .error 6 else .ok (insA s.1 i (s.2.1 + 1, c.name, c.typ), s.2.1 + 1, { s.2.2 with enc := insA s.2.2.enc i 1 })) from HM.out.trans (if_neg (by rw [hfc]; simp)))
  simp only [Option.getD_none, Option.isSome_none]
  have k9 := cell_regrown HT4.out.d9
  have k10 := cell_regrown HT4.out.d10
  have k11 := cell_regrown HT4.out.d11
  have k12 := cell_regrown HT4.out.d12
  have HVF := Lib.hid (fun (W : World) (l : Later w4 W) => valFits_any c.typ c.val.1 c.val.2.1 c.val.2.2 W (H34.out.later l))
  clear hfc HM
  by_cases hft : FitsV c.typ c.val
  rotate_left
  · have HX := Lib.hid (show addM s c c.typ c.val i = .error 4 from HM2.out.trans (if_pos hft))
    have HVQ := Lib.hid (fun (d : Nat) (os : Array Obj) => Calls.regrown_of (w := w4) (d := d) (os := os) (v := .bool false) ((HVF.out _ (below_regrown w4 d os)).mono fun _ _ h => h.no hft))
    clear hft HVF HM2
    go_wp2_with fail
    refine wp_region_quiet_below (by kernel_rfl) (by kernel_rfl) ?_
    repeat (quiet_step (exact HVQ.out _ _))
    refine wpQuiet_nil ?_
    intro _ hw'
    obtain ⟨⟨dq, osq⟩, hw''⟩ := hw'
    subst hw''
    have l5 := below_regrown w4 dq osq
    generalize Go.Sort.grow (redrawn w4 dq) osq = w5 at l5
    have HL5' := Lib.hid (HL4'.out.trans l5)
    have x4 := (HS4.out.later l5).c4
    have d10 := (HT4.out.later l5).d10
    clear l5 HVQ k9 k10 k11 k12
    go_wp2_with fail
    go_region_law (go_simp; go_at_call 60; refine (at_er _ _ _ _).mono ?_; rintro e w6 ⟨v, rfl, hv, l6⟩; have HV := Lib.hid hv; have HL3 := Lib.hid (HL5'.out.drew.trans l6); clear hv l6)
    all_goals (try go_wp2_with fail)
    all_goals go_ret
    all_goals exact TurnP.no 4 HX.out (by decide) HV.out HL3.out
  have HM3 := Lib.hid (show addM s c c.typ c.val i = (if 6 ≤ s.1.length ∨ 10000 ≤ s.2.1 then .error 6 else .ok (insA s.1 i (s.2.1 + 1, c.name, c.typ), s.2.1 + 1, { s.2.2 with enc := insA s.2.2.enc i 1 })) from HM2.out.trans (if_neg (fun h => h hft)))
  have HVQ := Lib.hid (fun (d : Nat) (os : Array Obj) => Calls.regrown_of (w := w4) (d := d) (os := os) (v := .bool true) ((HVF.out _ (below_regrown w4 d os)).mono fun _ _ h => h.yes hft))
  clear hft HVF HM2
  go_wp2_with fail
  refine wp_region_quiet_below (by kernel_rfl) (by kernel_rfl) ?_
  repeat (quiet_step (exact HVQ.out _ _))
  refine wpQuiet_nil ?_
  intro _ hw'
  obtain ⟨⟨dq, osq⟩, hw''⟩ := hw'
  subst hw''
  have l5 := below_regrown w4 dq osq
  generalize Go.Sort.grow (redrawn w4 dq) osq = w5 at l5
  have HL5' := Lib.hid (HL4'.out.trans l5)
  have HS5 := Lib.hid (HS4.out.later l5)
  have HT5 := Lib.hid (HT4.out.later l5)
  clear l5 HVQ k9 k10 k11 k12 HT4 HS4 H34 HL4'
  have d0 := HT5.out.d0
  have d1 := HT5.out.d1
  by_cases hf1 : (6 : Int) ≤ (s.1.length : Int)
  · have HX := Lib.hid (show addM s c c.typ c.val i = .error 6 from HM3.out.trans (if_pos (.inl (by omega))))
    have x6 := HS5.out.c6
    clear HM3
    go_wp2_with fail
    go_region_law (go_simp; go_at_call 60; refine (at_er _ _ _ _).mono ?_; rintro e w6 ⟨v, rfl, hv, l6⟩; have HV := Lib.hid hv; have HL3 := Lib.hid (HL5'.out.drew.trans l6); clear hv l6)
    all_goals (try go_wp2_with fail)
    all_goals go_ret
    all_goals exact TurnP.no 6 HX.out (by decide) HV.out HL3.out
  by_cases hf2 : (10000 : Int) ≤ s.2.1
  · have HX := Lib.hid (show addM s c c.typ c.val i = .error 6 from HM3.out.trans (if_pos (.inr hf2)))
    have x6 := HS5.out.c6
    clear HM3
    go_wp2_with fail
    go_region_law (go_simp; go_at_call 60; refine (at_er _ _ _ _).mono ?_; rintro e w6 ⟨v, rfl, hv, l6⟩; have HV := Lib.hid hv; have HL3 := Lib.hid (HL5'.out.drew.trans l6); clear hv l6)
    all_goals (try go_wp2_with fail)
    all_goals go_ret
    all_goals exact TurnP.no 6 HX.out (by decide) HV.out HL3.out
  have HX := Lib.hid (show addM s c c.typ c.val i = .ok (insA s.1 i (s.2.1 + 1, c.name, c.typ), s.2.1 + 1, { s.2.2 with enc := insA s.2.2.enc i 1 }) from HM3.out.trans (if_neg (by omega)))
  have hls := HT5.out.last
  have hwl : IntKind.i64.wrap (s.2.1 + 1) = s.2.1 + 1 := IntWalk.i64_in _ ⟨by omega, by omega⟩
  have fz1 := HT5.out.frz 1
  obtain ⟨w6, hw6⟩ : ∃ x, w5.setCell ⟨p, 1, none⟩ (.int .i64 (s.2.1 + 1)) = x := ⟨_, rfl⟩
  have HT6 := Lib.hid (show TS W0.heap.size p w6 (s.1, s.2.1 + 1, s.2.2) c gv vc ge ec from hw6 ▸ HT5.out.put (s' := (s.1, s.2.1 + 1, s.2.2)) (c' := c) 1 (.int .i64 (s.2.1 + 1)) rfl rfl rfl ⟨by show 1 ≤ s.2.1 + 1; omega, by show s.2.1 + 1 ≤ 10000; omega⟩)
  have HL6' := Lib.hid (show Later W0 w6 from hw6 ▸ HL5'.out.set_ HT5.out.hp _)
  have d0 := HT6.out.d0
  have d1 := HT6.out.d1
  have d8 := HT6.out.d8
  have d9 := HT6.out.d9
  clear HM3 HS5
  go_wp2_with fail
  have HSM := Lib.hid hsm
  have HF1 := Lib.hid hf1
  clear hw6 fz1 hwl hls hsm hf1 hf2 HT5 HL5'
  refine wp_region_Z (S := fun W : World => W.cell? ⟨p, 0, none⟩ = some (.slice (some ⟨gv, 0, none⟩) s.1.length vc) ∧ W.cell? ⟨p, 1, none⟩ = some (.int .i64 (s.2.1 + 1)) ∧ W.cell? ⟨p, 8, none⟩ = some (.string c.name) ∧ W.cell? ⟨p, 9, none⟩ = some (.int .i64 c.typ)) 28 (by kernel_rfl) ?_
  obtain ⟨w7, hw7⟩ : ∃ x, w6.drew = x := ⟨_, rfl⟩
  have l7 : Later w6 w7 := hw7 ▸ (Later.refl w6).drew
  rw [hw7]
  have HT7 := Lib.hid (HT6.out.later l7)
  have HL7' := Lib.hid (HL6'.out.trans l7)
  have hS : (fun W : World => W.cell? ⟨p, 0, none⟩ = some (.slice (some ⟨gv, 0, none⟩) s.1.length vc) ∧ W.cell? ⟨p, 1, none⟩ = some (.int .i64 (s.2.1 + 1)) ∧ W.cell? ⟨p, 8, none⟩ = some (.string c.name) ∧ W.cell? ⟨p, 9, none⟩ = some (.int .i64 c.typ)) w7 := ⟨HT7.out.d0, HT7.out.d1, HT7.out.d8, HT7.out.d9⟩
  clear hw7 l7 d0 d1 d8 d9 HT6 HL6'
  refine wpAnyZ_take (i := 0) (oi := { dst := some 99, op := _, type := _, pos := _, after := _, guard := _ }) (v := ?_) rfl (by kernel_rfl) (by kernel_rfl) (by kernel_rfl) (by kernel_rfl) (fun _ _ _ h => h) (Or.inl ⟨by rfl, ?_⟩) hS ?_
  rotate_left
  focus ((intro w hSw; (try dsimp only at hSw); obtain ⟨d0, d1, d2, d3⟩ := hSw; go_simp); (try with_reducible rfl))
  (try simp only [Act.put, List.setIfInBounds_toArray, List.set_cons_zero, List.set_cons_succ])
  refine wpAnyZ_take (i := 1) (oi := { dst := some 100, op := _, type := _, pos := _, after := _, guard := _ }) (v := ?_) rfl (by kernel_rfl) (by kernel_rfl) (by kernel_rfl) (by kernel_rfl) (fun _ _ _ h => h) (Or.inl ⟨by rfl, ?_⟩) hS ?_
  rotate_left
  focus ((intro w hSw; (try dsimp only at hSw); obtain ⟨d0, d1, d2, d3⟩ := hSw; go_simp); (try with_reducible rfl))
  (try simp only [Act.put, List.setIfInBounds_toArray, List.set_cons_zero, List.set_cons_succ])
  refine wpAnyZ_take (i := 2) (oi := { dst := some 101, op := _, type := _, pos := _, after := _, guard := _ }) (v := ?_) rfl (by kernel_rfl) (by kernel_rfl) (by kernel_rfl) (by kernel_rfl) (fun _ _ _ h => h) (Or.inl ⟨by rfl, ?_⟩) hS ?_
  rotate_left
  focus ((intro w hSw; (try dsimp only at hSw); obtain ⟨d0, d1, d2, d3⟩ := hSw; go_simp); (try with_reducible rfl))
  (try simp only [Act.put, List.setIfInBounds_toArray, List.set_cons_zero, List.set_cons_succ])
  refine wpAnyZ_take (i := 3) (oi := { dst := some 102, op := _, type := _, pos := _, after := _, guard := _ }) (v := ?_) rfl (by kernel_rfl) (by kernel_rfl) (by kernel_rfl) (by kernel_rfl) (fun _ _ _ h => h) (Or.inl ⟨by rfl, ?_⟩) hS ?_
  rotate_left
  focus ((intro w hSw; (try dsimp only at hSw); obtain ⟨d0, d1, d2, d3⟩ := hSw; go_simp); (try with_reducible rfl))
  (try simp only [Act.put, List.setIfInBounds_toArray, List.set_cons_zero, List.set_cons_succ])
  refine wpAnyZ_take (i := 4) (oi := { dst := some 103, op := _, type := _, pos := _, after := _, guard := _ }) (v := ?_) rfl (by kernel_rfl) (by kernel_rfl) (by kernel_rfl) (by kernel_rfl) (fun _ _ _ h => h) (Or.inl ⟨by rfl, ?_⟩) hS ?_
  rotate_left
  focus ((intro w hSw; (try dsimp only at hSw); obtain ⟨d0, d1, d2, d3⟩ := hSw; go_simp); (try with_reducible rfl))
  (try simp only [Act.put, List.setIfInBounds_toArray, List.set_cons_zero, List.set_cons_succ])
  refine wpAnyZ_take (i := 5) (oi := { dst := some 104, op := _, type := _, pos := _, after := _, guard := _ }) (v := ?_) rfl (by kernel_rfl) (by kernel_rfl) (by kernel_rfl) (by kernel_rfl) (fun _ _ _ h => h) (Or.inl ⟨by rfl, ?_⟩) hS ?_
  rotate_left
  focus ((intro w hSw; (try dsimp only at hSw); obtain ⟨d0, d1, d2, d3⟩ := hSw; go_simp); (try with_reducible rfl))
  (try simp only [Act.put, List.setIfInBounds_toArray, List.set_cons_zero, List.set_cons_succ])
  refine wpAnyZ_take (i := 6) (oi := { dst := some 105, op := _, type := _, pos := _, after := _, guard := _ }) (v := ?_) rfl (by kernel_rfl) (by kernel_rfl) (by kernel_rfl) (by kernel_rfl) (fun _ _ _ h => h) (Or.inl ⟨by rfl, ?_⟩) hS ?_
  rotate_left
  focus ((intro w hSw; (try dsimp only at hSw); obtain ⟨d0, d1, d2, d3⟩ := hSw; go_simp); (try with_reducible rfl))
  (try simp only [Act.put, List.setIfInBounds_toArray, List.set_cons_zero, List.set_cons_succ])
  refine wpAnyZ_take (i := 7) (oi := { dst := some 106, op := _, type := _, pos := _, after := _, guard := _ }) (v := ?_) rfl (by kernel_rfl) (by kernel_rfl) (by kernel_rfl) (by kernel_rfl) (fun _ _ _ h => h) (Or.inl ⟨by rfl, ?_⟩) hS ?_
  rotate_left
  focus ((intro w hSw; (try dsimp only at hSw); obtain ⟨d0, d1, d2, d3⟩ := hSw; go_simp); (try with_reducible rfl))
  (try simp only [Act.put, List.setIfInBounds_toArray, List.set_cons_zero, List.set_cons_succ])
  refine wpAnyZ_take (i := 8) (oi := { dst := some 107, op := _, type := _, pos := _, after := _, guard := _ }) (v := ?_) rfl (by kernel_rfl) (by kernel_rfl) (by kernel_rfl) (by kernel_rfl) (fun _ _ _ h => h) (Or.inl ⟨by rfl, ?_⟩) hS ?_
  rotate_left
  focus ((intro w hSw; (try dsimp only at hSw); obtain ⟨d0, d1, d2, d3⟩ := hSw; go_simp); (try with_reducible rfl))
  (try simp only [Act.put, List.setIfInBounds_toArray, List.set_cons_zero, List.set_cons_succ])
  refine wpAnyZ_take (i := 9) (oi := { dst := some 108, op := _, type := _, pos := _, after := _, guard := _ }) (v := ?_) rfl (by kernel_rfl) (by kernel_rfl) (by kernel_rfl) (by kernel_rfl) (fun _ _ _ h => h) (Or.inl ⟨by rfl, ?_⟩) hS ?_
  rotate_left
  focus ((intro w hSw; (try dsimp only at hSw); obtain ⟨d0, d1, d2, d3⟩ := hSw; go_simp); (try with_reducible rfl))
  (try simp only [Act.put, List.setIfInBounds_toArray, List.set_cons_zero, List.set_cons_succ])
  refine wpAnyZ_take (i := 10) (oi := { dst := some 109, op := _, type := _, pos := _, after := _, guard := _ }) (v := ?_) rfl (by kernel_rfl) (by kernel_rfl) (by kernel_rfl) (by kernel_rfl) (fun _ _ _ h => h) (Or.inl ⟨by rfl, ?_⟩) hS ?_
  rotate_left
  focus ((intro w hSw; (try dsimp only at hSw); obtain ⟨d0, d1, d2, d3⟩ := hSw; go_simp); (try with_reducible rfl))
  (try simp only [Act.put, List.setIfInBounds_toArray, List.set_cons_zero, List.set_cons_succ])
  refine wpAnyZ_take (i := 11) (oi := { dst := some 110, op := _, type := _, pos := _, after := _, guard := _ }) (v := ?_) rfl (by kernel_rfl) (by kernel_rfl) (by kernel_rfl) (by kernel_rfl) (fun _ _ _ h => h) (Or.inl ⟨by rfl, ?_⟩) hS ?_
  rotate_left
  focus ((intro w hSw; (try dsimp only at hSw); obtain ⟨d0, d1, d2, d3⟩ := hSw; go_simp); (try with_reducible rfl))
  (try simp only [Act.put, List.setIfInBounds_toArray, List.set_cons_zero, List.set_cons_succ])
  refine wpAnyZ_take (i := 12) (oi := { dst := some 111, op := _, type := _, pos := _, after := _, guard := _ }) (v := ?_) rfl (by kernel_rfl) (by kernel_rfl) (by kernel_rfl) (by kernel_rfl) (fun _ _ _ h => h) (Or.inl ⟨by rfl, ?_⟩) hS ?_
  rotate_left
  focus ((intro w hSw; (try dsimp only at hSw); obtain ⟨d0, d1, d2, d3⟩ := hSw; go_simp); (try with_reducible rfl))
  (try simp only [Act.put, List.setIfInBounds_toArray, List.set_cons_zero, List.set_cons_succ])
  refine wpAnyZ_take (i := 13) (oi := { dst := some 112, op := _, type := _, pos := _, after := _, guard := _ }) (v := ?_) rfl (by kernel_rfl) (by kernel_rfl) (by kernel_rfl) (by kernel_rfl) (fun _ _ _ h => h) (Or.inl ⟨by rfl, ?_⟩) hS ?_
  rotate_left
  focus ((intro w hSw; (try dsimp only at hSw); obtain ⟨d0, d1, d2, d3⟩ := hSw; go_simp); (try with_reducible rfl))
  (try simp only [Act.put, List.setIfInBounds_toArray, List.set_cons_zero, List.set_cons_succ])
  refine wpAnyZ_take (i := 14) (oi := { dst := some 113, op := _, type := _, pos := _, after := _, guard := _ }) (v := ?_) rfl (by kernel_rfl) (by kernel_rfl) (by kernel_rfl) (by kernel_rfl) (fun _ _ _ h => h) (Or.inl ⟨by rfl, ?_⟩) hS ?_
  rotate_left
  focus ((intro w hSw; (try dsimp only at hSw); obtain ⟨d0, d1, d2, d3⟩ := hSw; go_simp); (try with_reducible rfl))
  (try simp only [Act.put, List.setIfInBounds_toArray, List.set_cons_zero, List.set_cons_succ])
  refine wpAnyZ_take (i := 15) (oi := { dst := some 114, op := _, type := _, pos := _, after := _, guard := _ }) (v := ?_) rfl (by kernel_rfl) (by kernel_rfl) (by kernel_rfl) (by kernel_rfl) (fun _ _ _ h => h) (Or.inl ⟨by rfl, ?_⟩) hS ?_
  rotate_left
  focus ((intro w hSw; (try dsimp only at hSw); obtain ⟨d0, d1, d2, d3⟩ := hSw; go_simp); (try with_reducible rfl))
  (try simp only [Act.put, List.setIfInBounds_toArray, List.set_cons_zero, List.set_cons_succ])
  refine wpAnyZ_take (i := 16) (oi := { dst := some 115, op := _, type := _, pos := _, after := _, guard := _ }) (v := ?_) rfl (by kernel_rfl) (by kernel_rfl) (by kernel_rfl) (by kernel_rfl) (fun _ _ _ h => h) (Or.inl ⟨by rfl, ?_⟩) hS ?_
  rotate_left
  focus ((intro w hSw; (try dsimp only at hSw); obtain ⟨d0, d1, d2, d3⟩ := hSw; go_simp); (try with_reducible rfl))
  (try simp only [Act.put, List.setIfInBounds_toArray, List.set_cons_zero, List.set_cons_succ])
  refine wpAnyZ_take (i := 17) (oi := { dst := some 116, op := _, type := _, pos := _, after := _, guard := _ }) (v := ?_) rfl (by kernel_rfl) (by kernel_rfl) (by kernel_rfl) (by kernel_rfl) (fun _ _ _ h => h) (Or.inl ⟨by rfl, ?_⟩) hS ?_
  rotate_left
  focus ((intro w hSw; (try dsimp only at hSw); obtain ⟨d0, d1, d2, d3⟩ := hSw; go_simp); (try with_reducible rfl))
  (try simp only [Act.put, List.setIfInBounds_toArray, List.set_cons_zero, List.set_cons_succ])
  refine wpAnyZ_take (i := 18) (oi := { dst := some 117, op := _, type := _, pos := _, after := _, guard := _ }) (v := ?_) rfl (by kernel_rfl) (by kernel_rfl) (by kernel_rfl) (by kernel_rfl) (fun _ _ _ h => h) (Or.inl ⟨by rfl, ?_⟩) hS ?_
  rotate_left
  focus ((intro w hSw; (try dsimp only at hSw); obtain ⟨d0, d1, d2, d3⟩ := hSw; go_simp); (try with_reducible rfl))
  (try simp only [Act.put, List.setIfInBounds_toArray, List.set_cons_zero, List.set_cons_succ])
  refine wpAnyZ_take (i := 19) (oi := { dst := some 118, op := _, type := _, pos := _, after := _, guard := _ }) (v := ?_) rfl (by kernel_rfl) (by kernel_rfl) (by kernel_rfl) (by kernel_rfl) (fun _ _ _ h => h) (Or.inl ⟨by rfl, ?_⟩) hS ?_
  rotate_left
  focus ((intro w hSw; (try dsimp only at hSw); obtain ⟨d0, d1, d2, d3⟩ := hSw; go_simp); (try with_reducible rfl))
  (try simp only [Act.put, List.setIfInBounds_toArray, List.set_cons_zero, List.set_cons_succ])
  refine wpAnyZ_take (i := 20) (oi := { dst := some 119, op := _, type := _, pos := _, after := _, guard := _ }) (v := ?_) rfl (by kernel_rfl) (by kernel_rfl) (by kernel_rfl) (by kernel_rfl) (fun _ _ _ h => h) (Or.inl ⟨by rfl, ?_⟩) hS ?_
  rotate_left
  focus ((intro w hSw; (try dsimp only at hSw); obtain ⟨d0, d1, d2, d3⟩ := hSw; go_simp); (try with_reducible rfl))
  (try simp only [Act.put, List.setIfInBounds_toArray, List.set_cons_zero, List.set_cons_succ])
  refine wpAnyZ_take (i := 21) (oi := { dst := some 120, op := _, type := _, pos := _, after := _, guard := _ }) (v := ?_) rfl (by kernel_rfl) (by kernel_rfl) (by kernel_rfl) (by kernel_rfl) (fun _ _ _ h => h) (Or.inl ⟨by rfl, ?_⟩) hS ?_
  rotate_left
  focus ((intro w hSw; (try dsimp only at hSw); obtain ⟨d0, d1, d2, d3⟩ := hSw; go_simp); (try with_reducible rfl))
  (try simp only [Act.put, List.setIfInBounds_toArray, List.set_cons_zero, List.set_cons_succ])
  refine wpAnyZ_take (i := 22) (oi := { dst := some 121, op := _, type := _, pos := _, after := _, guard := _ }) (v := ?_) rfl (by kernel_rfl) (by kernel_rfl) (by kernel_rfl) (by kernel_rfl) (fun _ _ _ h => h) (Or.inl ⟨by rfl, ?_⟩) hS ?_
  rotate_left
  focus ((intro w hSw; (try dsimp only at hSw); obtain ⟨d0, d1, d2, d3⟩ := hSw; go_simp); (try with_reducible rfl))
  (try simp only [Act.put, List.setIfInBounds_toArray, List.set_cons_zero, List.set_cons_succ])
  refine wpAnyZ_all (rs := [23]) (by kernel_rfl) (by simp) (fun i hi => ?_)
  simp only [List.mem_cons, List.not_mem_nil, or_false] at hi
  subst hi
  refine stepZ (o := { dst := some 122, op := _, type := _, pos := _, after := _, guard := _ }) rfl (fun K hK => ?_)
  go_simp
  obtain ⟨g8, hg8⟩ : ∃ x, w7.heap.size = x := ⟨_, rfl⟩
  obtain ⟨w8, hw8⟩ : ∃ x, w7.alloc (.cells #[.int .i64 (s.2.1 + 1), .string c.name, .int .i64 c.typ] 59) = x := ⟨_, rfl⟩
  have l8 : Later w7 w8 := hw8 ▸ Later.new _ _
  have bX : Blk w8 g8 #[.int .i64 (s.2.1 + 1), .string c.name, .int .i64 c.typ] 59 := hw8 ▸ Blk.new w7 _ _ _ hg8.symm
  try rw [hg8]
  rw [hw8]
  have HT8 := Lib.hid (HT7.out.later l8)
  have HL8' := Lib.hid (HL7'.out.trans l8)
  have hS : (fun W : World => W.cell? ⟨p, 0, none⟩ = some (.slice (some ⟨gv, 0, none⟩) s.1.length vc) ∧ W.cell? ⟨p, 1, none⟩ = some (.int .i64 (s.2.1 + 1)) ∧ W.cell? ⟨p, 8, none⟩ = some (.string c.name) ∧ W.cell? ⟨p, 9, none⟩ = some (.int .i64 c.typ)) w8 := ⟨HT8.out.d0, HT8.out.d1, HT8.out.d8, HT8.out.d9⟩
  have HIN := Lib.hid (insertC W0.heap.size gv s.1.length vc i g8 1 (i : Int) s.1 (s.2.1 + 1, c.name, c.typ) w8 HT8.out.cols rfl rfl HI.out (by have := HSM.out; omega) bX (by have := HT7.out.cols.lt gv rfl; omega) HL8'.out.size)
  refine hK _ _ hS ?_
  clear hK hw8 l8 bX hg8
  (try simp only [Act.put, List.setIfInBounds_toArray, List.set_cons_zero, List.set_cons_succ])
  refine wpAnyZ_all (rs := [24]) (by kernel_rfl) (by simp) (fun i hi => ?_)
  simp only [List.mem_cons, List.not_mem_nil, or_false] at hi
  subst hi
  refine stepZ (o := { dst := some 123, op := _, type := _, pos := _, after := _, guard := _ }) rfl (fun K hK => ?_)
  go_simp
  refine HIN.out.mono ?_
  rintro e w9 ⟨gv9, vc9, rfl, o9, g9⟩
  have b9 : Blk w9 p (tcells (s.1, s.2.1 + 1, s.2.2) c gv vc ge ec) 78 := (g9.block p HT8.out.blk.lt (fun e => by injection e with e; exact HT8.out.ne1 e.symm)).trans HT8.out.blk
  have hS : (fun W : World => W.cell? ⟨p, 0, none⟩ = some (.slice (some ⟨gv, 0, none⟩) s.1.length vc) ∧ W.cell? ⟨p, 1, none⟩ = some (.int .i64 (s.2.1 + 1)) ∧ W.cell? ⟨p, 8, none⟩ = some (.string c.name) ∧ W.cell? ⟨p, 9, none⟩ = some (.int .i64 c.typ)) w9 := ⟨b9.cell 0 _ rfl, b9.cell 1 _ rfl, b9.cell 8 _ rfl, b9.cell 9 _ rfl⟩
  have HTC := Lib.hid (HT8.out.toTC _ o9 g9)
  have HL9 := Lib.hid (grow_later HL8'.out g9 HT8.out.gv)
  have z9 := b9.frozen 0
  refine hK _ _ hS ?_
  clear hK HIN o9 g9 b9
  (try simp only [Act.put, List.setIfInBounds_toArray, List.set_cons_zero, List.set_cons_succ])
  refine wpAnyZ_all (rs := [25]) (by kernel_rfl) (by simp) (fun i hi => ?_)
  simp only [List.mem_cons, List.not_mem_nil, or_false] at hi
  subst hi
  refine stepZ (o := { dst := some 124, op := _, type := _, pos := _, after := _, guard := _ }) rfl (fun K hK => ?_)
  go_simp
  refine hK _ _ hS ?_
  clear hK
  (try simp only [Act.put, List.setIfInBounds_toArray, List.set_cons_zero, List.set_cons_succ])
  refine wpAnyZ_all (rs := [26]) (by kernel_rfl) (by simp) (fun i hi => ?_)
  simp only [List.mem_cons, List.not_mem_nil, or_false] at hi
  subst hi
  refine stepZ (o := { dst := some 125, op := _, type := _, pos := _, after := _, guard := _ }) rfl (fun K hK => ?_)
  go_simp
  refine hK _ _ hS ?_
  clear hK
  (try simp only [Act.put, List.setIfInBounds_toArray, List.set_cons_zero, List.set_cons_succ])
  refine wpAnyZ_all (rs := [27]) (by kernel_rfl) (by simp) (fun i hi => ?_)
  simp only [List.mem_cons, List.not_mem_nil, or_false] at hi
  subst hi
  refine stepZ (o := { dst := some 126, op := _, type := _, pos := _, after := _, guard := _ }) rfl (fun K hK => ?_)
  go_simp
  refine hK _ _ hS ?_
  clear hK
  (try simp only [Act.put, List.setIfInBounds_toArray, List.set_cons_zero, List.set_cons_succ])
  refine wpAnyZ_all (rs := [28]) (by kernel_rfl) (by simp) (fun i hi => ?_)
  simp only [List.mem_cons, List.not_mem_nil, or_false] at hi
  subst hi
  have z8 := hS.1
  refine stepZl (o := { dst := none, op := _, type := _, pos := _, after := _, guard := _ }) rfl (fun K hK => ?_)
  go_simp
  refine hK _ _ ?_
  clear hK
  (try simp only [Act.put, List.setIfInBounds_toArray, List.set_cons_zero, List.set_cons_succ])
  refine wpAnyZ_done (by kernel_rfl) ?_ _
  clear z8 z9 hS
  obtain ⟨wA, hwA⟩ : ∃ x, w9.setCell ⟨p, 0, none⟩ (.slice (some ⟨gv9, 0, none⟩) (insA s.1 i (s.2.1 + 1, c.name, c.typ)).length vc9) = x := ⟨_, rfl⟩
  have HLA := Lib.hid (show Later W0 wA from hwA ▸ HL9.out.set_ HT8.out.hp _)
  rw [hwA] at HTC ⊢
  have d5 := HTC.out.d5
  have HLE := Lib.hid HT8.out.lens
  have HLS := Lib.hid HT8.out.last
  have hlz : s.2.2.enc.length ≤ 6 := by have h1 : s.2.2.enc.length = s.1.length := HLE.out; have := HSM.out; omega
  obtain ⟨gB, hgB⟩ : ∃ x, wA.heap.size = x := ⟨_, rfl⟩
  obtain ⟨wB, hwB⟩ : ∃ x, wA.alloc (.cells #[.int .i64 1] 3) = x := ⟨_, rfl⟩
  have lB : Later wA wB := hwB ▸ Later.new _ _
  have bY : Blk wB gB #[.int .i64 1] 3 := hwB ▸ Blk.new wA _ _ _ hgB.symm
  have HTB := Lib.hid (HTC.out.later lB)
  have HLB := Lib.hid (HLA.out.trans lB)
  have HIN := Lib.hid (insertI W0.heap.size ge s.2.2.enc.length ec i gB 1 (i : Int) s.2.2.enc 1 wB HTB.out.encs rfl rfl (by have h1 : s.2.2.enc.length = s.1.length := HLE.out; have := HI.out; omega) (by omega) bY (by have := HTC.out.encs.lt ge rfl; omega) HLB.out.size)
  clear hwA lB bY HT7 HT8 HL7' HL8' HL9
  go_wp2_with fail
  try rw [hgB]
  try rw [hwB]
  refine HIN.out.mono ?_
  rintro e wC ⟨geC, ecC, rfl, oC, gC⟩
  have HTS := Lib.hid (HTB.out.toTS _ oC gC (by rw [insA_len, insA_len]; have h1 : s.2.2.enc.length = s.1.length := HLE.out; omega) (by rw [insA_len]; have := HSM.out; have := HF1.out; omega) HLS.out)
  have hbC := (gC.block p HTB.out.blk.lt (fun e => by injection e with e; obtain ⟨cu, hcu⟩ := own_typ HTB.out.encs; exact ne_typ hcu HTB.out.blk (by decide) e.symm)).trans HTB.out.blk
  have hz : wC.frozen? ⟨p, 5, none⟩ = false := Blk.frozen hbC 5
  have hz5 : wC.cell? ⟨p, 5, none⟩ = some (.slice (some ⟨ge, 0, none⟩) s.2.2.enc.length ec) := Blk.cell hbC 5 _ rfl
  have HLC := Lib.hid (show Later W0 (wC.setCell ⟨p, 5, none⟩ (.slice (some ⟨geC, 0, none⟩) (insA s.2.2.enc i 1).length ecC)) from (grow_later HLB.out gC (own_capG HTB.out.encs).2.2.1).set_ HTB.out.hp _)
  clear oC gC hbC HIN HTB HTC
  go_wp2_with fail
  go_ret
  exact TurnP.yes HX.out HTS.out HLC.out
end Go.Proofs.YtklohbglkbhjhaaDoor
