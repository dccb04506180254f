/- The walks of a device's New; the law's full. -/
import Derived.Test.YtfplppldojlanaaDoorDevD
namespace Go.Proofs.YtfplppldojlanaaDoor
open Go.RowKit
set_option linter.unusedVariables false

theorem info_bs : (Tryd.prog.info? 24).map (fun i => (i.zero, i.size, i.bytes)) = some (some (.slice none 0 0), 1, 24) := by kernel_rfl
abbrev nilv : Value := .slice none 0 0
def z128 : List Nat := List.replicate 128 0
/-- The bytes b, as a block's. -/
def fullL (b : List Nat) : List Nat := b.take 128 ++ List.replicate (128 - b.length) 0
theorem fullL_len (b : List Nat) : (fullL b).length = 128 := by simp [fullL]; omega
theorem fullL_lt {b : List Nat} (h : ∀ x ∈ b, x < 256) : ∀ x ∈ fullL b, x < 256 := by
  intro x hx
  rcases List.mem_append.1 hx with hx | hx
  · exact h x (List.mem_of_mem_take hx)
  · have := (List.mem_replicate.1 hx).2; omega
def newD (B : Nat) : D := ⟨List.replicate B z128, List.replicate B z128, [], 0, false, 0⟩

set_option maxRecDepth 100000 in
set_option maxHeartbeats 1000000 in
theorem rowClone_any (g n c : Nat) (vs : List Value) (w : World) (hn : n = vs.length) (hn1 : 1 ≤ n) (hl : vs.length ≤ 100000) (hr : Has w (some ⟨g, 0, none⟩) vs) (h1 : ∀ u ∈ vs, u.oneCell' = true) :
    Calls Tryd.prog 21 #[.slice (some ⟨g, 0, none⟩) n c] w fun e w' => ∃ g' cap, e = .returned (.slice (some ⟨g', 0, none⟩) n cap) ∧ w'.ownsRow w.heap.size 24 1 (.slice (some ⟨g', 0, none⟩) n cap) n vs ∧ Later w w' := by
  have q22 : ∀ (w : World) (a : Option Addr) (n c n' c' : Nat), (binOp .eql 33 (.slice a n c) (.slice none n' c')).run Tryd.prog w = .ok (.bool a.isNone) w := fun w a n c n' c' => Lib.run_eql_slice_nil w _ _ a n c n' c' Tryd.underlying33
  have l1 := Later.new w (.cells ([] : List Value).toArray 24)
  have OW := Lib.hid ((Blk.new w ([] : List Value).toArray 24 _ rfl).ownG (base := w.heap.size) (size := 1) (n := 0) (Nat.le_refl _) rfl (by decide))
  have HR := Lib.hid (hr.later l1)
  have HL1 := Lib.hid l1
  have HN := Lib.hid hn
  have H1 := Lib.hid h1
  have hn9 : n ≤ 100000 := by omega
  clear hr l1 hn hl h1
  go_enter Tryd.func21, Tryd.ntmps21
  go_wp2_with (at_builtin; refine wpList_append_rd _ rfl (.tmp 5) (.tmp 6) 33 rfl w.heap.size 24 (.slice none 0 0) 24 Tryd.underlying33 info_bs rfl _ 0 [] rfl OW.out _ (some ⟨g, 0, none⟩) n c vs rfl HR.out.rd HN.out (by intro h; cases h) H1.out (by unfold maxLen; omega) (by omega) ?_ ?_; (exact HL1.out.size); intro A2 c2 w6 o2 g2 b2 n2; simp only [Nat.zero_add, List.nil_append] at o2; have HO2 := Lib.hid o2; have HB6 := Lib.hid (Later.of (HL1.out.below.trans b2)); clear o2 g2 b2 n2)
  obtain ⟨g', rfl⟩ : ∃ g', A2 = some ⟨g', 0, none⟩ := by
    rcases HO2.out.2 with ⟨h7, _⟩ | ⟨g, _, _, h7, _⟩
    · injection h7 with _ h7; omega
    · injection h7 with h7; exact ⟨g, h7⟩
  go_ret
  exact ⟨g', c2, by simp, HO2.out, HB6.out⟩
theorem SR.vals {w : World} {base g n c : Nat} {L : List (List Nat)} (h : SR w base g n c L) : ∃ vs, vs.length = n ∧ Has w (some ⟨g, 0, none⟩) vs ∧ (∀ u ∈ vs, u.oneCell' = true) ∧ ∀ i, (hi : i < L.length) → ∃ v, vs[i]? = some v ∧ BV w v L[i] := by
  obtain ⟨h1, vs, h2, h3⟩ := h
  have hl : vs.length = n := by have := h2.1; omega
  refine ⟨vs, hl, Has.own h2, fun u hu => ?_, h3⟩
  obtain ⟨i, hi, rfl⟩ := List.getElem_of_mem hu
  obtain ⟨v, h4, h5⟩ := h3 i (by omega)
  rw [List.getElem?_eq_getElem hi] at h4
  injection h4 with h4
  obtain ⟨_, _, b, o, c, cs, h6, _⟩ := h5
  rw [h4, h6]; rfl
theorem SR.clone {w w' : World} {base base' g' n c' : Nat} {L : List (List Nat)} {vs : List Value} (h1 : L.length = n) (h3 : ∀ i, (hi : i < L.length) → ∃ v, vs[i]? = some v ∧ BV w v L[i]) (ho : w'.ownsRow base' 24 1 (.slice (some ⟨g', 0, none⟩) n c') n vs) (hl : Later w w') (hb : base ≤ base') : SR w' base g' n c' L :=
  ⟨h1, vs, own_mono ho hb, fun i hi => by obtain ⟨v, h4, h5⟩ := h3 i hi; exact ⟨v, h4, h5.later hl⟩⟩

/-- The rows of New, on the way. -/
def NwI (B p gs bz : Nat) (w : World) (iv : Value) (wr : World) : Prop :=
  ∃ j : Nat, iv = .int .i64 j ∧ j ≤ B ∧ Blk wr p #[.slice (some ⟨gs, 0, none⟩) B B, nilv, nilv, .int .i64 0, .bool false, .int .i64 0] 54 ∧ Blk wr gs (List.replicate j (Value.slice (some ⟨bz, 0, none⟩) 128 128) ++ List.replicate (B - j) nilv).toArray 24 ∧ Row wr bz 5 .u8 z128 ∧ Later w wr
theorem NwI.mk {B p gs bz : Nat} {w wr : World} (a : Int) (j : Nat) (ha : a = (j : Int)) (hj : j ≤ B) (h1 : Blk wr p #[.slice (some ⟨gs, 0, none⟩) B B, nilv, nilv, .int .i64 0, .bool false, .int .i64 0] 54) (h2 : Blk wr gs (List.replicate j (Value.slice (some ⟨bz, 0, none⟩) 128 128) ++ List.replicate (B - j) nilv).toArray 24) (h3 : Row wr bz 5 .u8 z128) (h4 : Later w wr) : NwI B p gs bz w (.int .i64 a) wr := by
  subst ha; exact ⟨j, rfl, hj, h1, h2, h3, h4⟩

set_option maxRecDepth 100000 in
set_option maxHeartbeats 4000000 in
theorem devNew_any (B : Nat) (w : World) (hB : 1 ≤ B ∧ B ≤ 4000) :
    Calls Tryd.prog 9 #[.int .i64 B] w fun e w' => ∃ p gs gn cs cn, e = .returned (.tuple #[dptr p, .bool true]) ∧ DA w' w.heap.size p gs gn B cs cn none 0 (newD B) ∧ Later w w' := by
  have mk : ∀ N : Nat, N ≤ 4000 → ∀ W : World, (Instr.makeSlice 33 (.int .i64 (N : Int)) (.int .i64 (N : Int))).run Tryd.prog W = .ok (.slice (some ⟨W.heap.size, 0, none⟩) N N) (W.alloc (.cells (madeCells #[nilv] N) 24)) := fun N h W => run_make_row' (P := Tryd.prog) 33 24 nilv 24 Tryd.underlying33 info_bs rfl .i64 .i64 N (by omega) (by omega) W
  have hmk := mk B hB.2
  have m128 : ∀ W : World, (Instr.makeSlice 24 (.int .i64 128) (.int .i64 128)).run Tryd.prog W = .ok (.slice (some ⟨W.heap.size, 0, none⟩) 128 128) (W.alloc (.cells (madeCells #[.int .u8 0] 128) 5)) := fun W => run_make_cap 128 128 (Nat.le_refl _) (by omega) W
  have d1 : decide ((B : Int) < 1) = false := by simp; omega
  have d2 : decide ((4000 : Int) < (B : Int)) = false := by simp; omega
  have hB4 := hB.2
  clear mk
  go_enter Tryd.func9, Tryd.ntmps9
  go_wp2_with fail
  obtain ⟨gs, hgs⟩ : ∃ x, x = w.heap.size := ⟨_, rfl⟩
  obtain ⟨p, hp⟩ : ∃ x, x = w.heap.size + 1 := ⟨_, rfl⟩
  obtain ⟨bz, hbz⟩ : ∃ x, x = w.heap.size + 1 + 1 := ⟨_, rfl⟩
  have la : ∀ (W : World) (o : Obj), Later W (W.alloc o) := fun W o => Later.new W o
  have HI := Lib.hid (show NwI B p gs bz w (.int .i64 0) (((w.alloc (.cells (madeCells #[nilv] B) 24)).alloc (.cells #[.slice (some ⟨w.heap.size, 0, none⟩) B B, nilv, nilv, .int .i64 0, .bool false, .int .i64 0] 54)).alloc (.cells (madeCells #[.int .u8 0] 128) 5)) from by
    have hm : madeCells #[nilv] B = (List.replicate 0 (Value.slice (some ⟨bz, 0, none⟩) 128 128) ++ List.replicate (B - 0) nilv).toArray := by
      apply Array.ext'
      simp [madeCells, Nat.mod_one, List.map_const']
    refine NwI.mk 0 0 rfl (Nat.zero_le _) ?_ ?_ ?_ (((la _ _).trans (la _ _)).trans (la _ _))
    · rw [hgs]; exact (Blk.new _ _ _ p (by rw [hp]; simp)).later (la _ _)
    · rw [hm]; exact ((Blk.new w _ _ gs hgs).later (la _ _)).later (la _ _)
    · have := Row.made ((w.alloc (.cells (madeCells #[nilv] B) 24)).alloc (.cells #[.slice (some ⟨w.heap.size, 0, none⟩) B B, nilv, nilv, .int .i64 0, .bool false, .int .i64 0] 54)) 5 .u8 128
      rw [show ((w.alloc (.cells (madeCells #[nilv] B) 24)).alloc (.cells #[.slice (some ⟨w.heap.size, 0, none⟩) B B, nilv, nilv, .int .i64 0, .bool false, .int .i64 0] 54)).heap.size = bz by rw [hbz]; simp] at this
      exact this)
  have HGS := Lib.hid hgs
  have HP := Lib.hid hp
  have HBZ := Lib.hid hbz
  rw [← hbz, ← hp, ← hgs]
  rw [← hgs] at HI
  clear la hgs hp hbz
  go_loopw [23] (fun iv wr => NwI B p gs bz w iv wr) (fun iv _ => B - (intOf iv).toNat)
  case atStart => exact HI.out
  case round =>
    obtain ⟨j, rfl, hj, hbp, hbg, hrz, hla⟩ := hrel
    have HBP := Lib.hid hbp
    have HBG := Lib.hid hbg
    have HRZ := Lib.hid hrz
    have HLA := Lib.hid hla
    have k0 := hbp.cell 0 _ rfl
    by_cases hlt : j < B
    · have hc : wr.cell? ⟨gs, j, none⟩ = some nilv := hbg.cell j _ (by rw [List.getElem?_toArray, List.getElem?_append_right (by simp), List.length_replicate, Nat.sub_self, List.getElem?_replicate, if_pos (by omega)])
      have hf := hbg.frozen j
      have hset := hbg.set_ j (.slice (some ⟨bz, 0, none⟩) 128 128)
      rw [show ((List.replicate j (Value.slice (some ⟨bz, 0, none⟩) 128 128) ++ List.replicate (B - j) nilv).toArray.setIfInBounds j (.slice (some ⟨bz, 0, none⟩) 128 128)) = (List.replicate (j + 1) (Value.slice (some ⟨bz, 0, none⟩) 128 128) ++ List.replicate (B - (j + 1)) nilv).toArray from by
        apply Array.ext'
        rw [Array.toList_setIfInBounds]
        show (List.replicate j _ ++ List.replicate (B - j) nilv).set j _ = _
        obtain ⟨r, hr⟩ : ∃ r, B - j = r + 1 := ⟨B - j - 1, by omega⟩
        rw [hr, show B - (j + 1) = r by omega, List.set_append_right _ _ (by simp), List.length_replicate, Nat.sub_self, List.replicate_succ, List.set_cons_zero, List.replicate_succ', List.append_assoc]; rfl] at hset
      have hne : p ≠ gs := by have := HP.out; have := HGS.out; omega
      have hne2 : bz ≠ gs := by have := HBZ.out; have := HGS.out; omega
      have HS := Lib.hid hset
      have HP2 := Lib.hid (hbp.far (p := ⟨gs, j, none⟩) hne (.slice (some ⟨bz, 0, none⟩) 128 128))
      have HZ2 := Lib.hid (hrz.far (p := ⟨gs, j, none⟩) hne2 (.slice (some ⟨bz, 0, none⟩) 128 128))
      have HL2 := Lib.hid (hla.set_ (p := ⟨gs, j, none⟩) (by have := HGS.out; show w.heap.size ≤ gs; omega) (.slice (some ⟨bz, 0, none⟩) 128 128))
      clear hbp hbg hrz hla hset hne hne2
      go_wp2_with fail
      go_roundw
      case rel => exact NwI.mk _ (j + 1) (by go_num) hlt HP2.out HS.out HZ2.out HL2.out
      case measure => simp [intOf]; omega
    · obtain rfl : j = B := by omega
      rw [Nat.sub_self, List.replicate_zero, List.append_nil] at hbg
      have hhas : Has wr (some ⟨gs, 0, none⟩) (List.replicate j (Value.slice (some ⟨bz, 0, none⟩) 128 128)) := .inr ⟨gs, 0, rfl, hbg.lt, fun k v hk => by rw [Nat.zero_add]; exact hbg.cell k v (by rw [List.getElem?_toArray]; exact hk)⟩
      have HCL := Lib.hid (rowClone_any gs j j (List.replicate j (Value.slice (some ⟨bz, 0, none⟩) 128 128)) wr (by simp) (by omega) (by simp; omega) hhas (fun u hu => by rw [(List.mem_replicate.1 hu).2]; rfl))
      have HBG2 := Lib.hid hbg
      clear hbp hbg hrz hla hhas
      go_wp2_with fail
      refine HCL.out.mono ?_
      rintro e w4 ⟨gn, cap, rfl, ho, l4⟩
      have HO := Lib.hid ho
      have HL4 := Lib.hid l4
      have B4 := HBP.out.later l4
      have k1 := B4.cell 1 _ rfl
      have f1 := B4.frozen 1
      have HB4 := Lib.hid B4
      clear ho l4 B4 HCL k0
      go_wp2_with fail
      have hbv : ∀ W, Later wr W → BV W (.slice (some ⟨bz, 0, none⟩) 128 128) z128 := fun W L => ⟨rfl, (fun x hx => by have := (List.mem_replicate.1 hx).2; omega), bz, 0, 128, _, rfl, by decide, by decide, (L.row HRZ.out), fun j u hj => by rw [Nat.zero_add]; simpa using hj⟩
      have hgl := HBG2.out.lt
      have hgn := HO.out.lt gn rfl
      have hgp : gn ≠ p := by have := HBP.out.lt; omega
      have hsp : p ≠ gs := by have := HP.out; have := HGS.out; omega
      have hsr : ∀ i, (hi : i < (List.replicate j z128).length) → ∃ v, (List.replicate j (Value.slice (some ⟨bz, 0, none⟩) 128 128))[i]? = some v ∧ BV wr v (List.replicate j z128)[i] := fun i hi => ⟨_, by rw [List.getElem?_replicate, if_pos (by simpa using hi)], by rw [List.getElem_replicate]; exact hbv wr (Later.refl _)⟩
      have S1 : SR w4 w.heap.size gs j j (List.replicate j z128) := ⟨List.length_replicate, _, (HBG2.out.later HL4.out).ownG (size := 1) (by have := HGS.out; omega) (by simp) (by unfold maxLen; omega), fun i hi => by obtain ⟨v, h1, h2⟩ := hsr i hi; exact ⟨v, h1, h2.later HL4.out⟩⟩
      have S2 : SR w4 w.heap.size gn j cap (List.replicate j z128) := SR.clone (base := w.heap.size) List.length_replicate hsr HO.out HL4.out HLA.out.size
      have DR4 : DR w4 w.heap.size p gs gn j j cap none 0 0 (List.replicate j z128) (List.replicate j z128) [] _ := ⟨HB4.out, S1, S2, ⟨rfl, fun _ => rfl, [], ownG_nil _ _ _ _, fun i hi => absurd hi (Nat.not_lt_zero _)⟩, by omega, by have := HP.out; omega⟩
      have D5 := DR4.setp 1 (.slice (some ⟨gn, 0, none⟩) j cap)
      have hL := (HLA.out.trans HL4.out).set_ (p := ⟨p, 1, none⟩) (by have := HP.out; show w.heap.size ≤ p; omega) (.slice (some ⟨gn, 0, none⟩) j cap)
      exact bodyPost_ret (v := .tuple #[dptr p, .bool true]) (by simp [results, Tryd.results9, go_sem]) rfl ⟨p, gs, gn, j, cap, rfl, DA.of (d := newD j) (nf := 0) D5 rfl rfl, hL⟩

/-- Behind j bytes of full. -/
def fullJ (b : List Nat) (j : Nat) : List Nat := b.take j ++ List.replicate (128 - j) 0
theorem fullJ_step {b : List Nat} {j : Nat} (hj : j < b.length) (h8 : j < 128) : (fullJ b j).set j b[j] = fullJ b (j + 1) := by
  unfold fullJ
  obtain ⟨r, hr⟩ : ∃ r, 128 - j = r + 1 := ⟨128 - j - 1, by omega⟩
  rw [hr, show 128 - (j + 1) = r by omega, List.set_append_right _ _ (by simp; omega), List.length_take, Nat.min_eq_left (by omega), Nat.sub_self, List.replicate_succ, List.set_cons_zero, List.take_succ_eq_append_getElem hj, List.append_assoc]; rfl
def FuI (g : Nat) (b : List Nat) (w : World) (iv : Value) (wr : World) : Prop :=
  ∃ j : Nat, iv = .int .i64 j ∧ j ≤ b.length ∧ j ≤ 128 ∧ Row wr g 5 .u8 (fullJ b j) ∧ Later w wr
theorem FuI.mk {g : Nat} {b : List Nat} {w wr : World} (a : Int) (j : Nat) (ha : a = (j : Int)) (hj : j ≤ b.length) (h8 : j ≤ 128) (h1 : Row wr g 5 .u8 (fullJ b j)) (h2 : Later w wr) : FuI g b w (.int .i64 a) wr := by
  subst ha; exact ⟨j, rfl, hj, h8, h1, h2⟩
/-- What full tells. -/
def FullP (b : List Nat) (w : World) (e : Ending) (w' : World) : Prop := ∃ g, e = .returned (.slice (some ⟨g, 0, none⟩) 128 128) ∧ Row w' g 5 .u8 (fullL b) ∧ Later w w' ∧ w.heap.size ≤ g

end Go.Proofs.YtfplppldojlanaaDoor
