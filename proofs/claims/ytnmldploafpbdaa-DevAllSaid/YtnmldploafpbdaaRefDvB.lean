/- The document's device: NewDev, Write, Flush. -/
import Derived.Test.YtnmldploafpbdaaRefDvA
namespace Go.Proofs.Ytnmldploafpbdaa
open Go.RowKit
set_option linter.unusedVariables false

theorem info_st : (Try.prog.info? 9).map (fun i => (i.zero, i.size, i.bytes)) = some (some (.string ⟨#[]⟩), 1, 16) := by kernel_rfl
theorem info_pe : (Try.prog.info? 63).map (fun i => (i.zero, i.size, i.bytes)) = some (some (.agg #[.int .i64 0, .string ⟨#[]⟩]), 2, 24) := by kernel_rfl
theorem has_new (w : World) (cs : List Value) (t : TypeId) : Has (w.alloc (.cells cs.toArray t)) (some ⟨w.heap.size, 0, none⟩) cs :=
  Or.inr ⟨w.heap.size, 0, rfl, (Blk.new w cs.toArray t w.heap.size rfl).lt, fun k v hv => by
    rw [Nat.zero_add]
    exact (Blk.new w cs.toArray t w.heap.size rfl).cell k v (by simpa using hv)⟩
theorem has_newg (w : World) (cs : List Value) (t : TypeId) (g : Nat) (hg : g = w.heap.size) : Has (w.alloc (.cells cs.toArray t)) (some ⟨g, 0, none⟩) cs := by subst hg; exact has_new w cs t
theorem has_newd (w : World) (cs : List Value) (t : TypeId) (g : Nat) (hg : g = w.heap.size) : Has (w.alloc (.cells cs.toArray t)).drew (some ⟨g, 0, none⟩) cs := (has_newg w cs t g hg).later (Later.refl _).drew
theorem Blk.app {w W w' : World} {base p n c k : Nat} {A : Option Addr} {xs : List Value} {x : Array Value} {t e : TypeId} (hb : Blk w p x t) (ho : w.ownsRow base e k (.slice A n c) n xs) (L : Later w W) (hg : W.grownBy w' (Value.slice A n c).ownBlock) (hne : t ≠ e) : Blk w' p x t :=
  (hg.block p (hb.later L).lt (by
    intro h
    obtain ⟨cs, hc⟩ := devblk_v (own_later ho L) p h.symm
    exact typed_ne (hb.later L) hc hne rfl)).trans (hb.later L)
theorem own_app {w W w' : World} {base base2 n c k k2 n2 : Nat} {A : Option Addr} {xs ys : List Value} {v : Value} {t e : TypeId} (hv : w.ownsRow base2 t k2 v n2 ys) (ho : w.ownsRow base e k (.slice A n c) n xs) (L : Later w W) (hg : W.grownBy w' (Value.slice A n c).ownBlock) (hne : t ≠ e) : w'.ownsRow base2 t k2 v n2 ys :=
  devown_row (own_later hv L) hg (by
    intro x hx h
    obtain ⟨cs, hc⟩ := devblk_v (own_later ho L) x h.symm
    obtain ⟨cs2, hc2⟩ := devblk_v (own_later hv L) x hx
    exact typed_ne hc2 hc hne rfl)
theorem strsV_rep (j : Nat) : strsV (List.replicate (j + 1) z128) = strsV (List.replicate j z128) ++ [.string (bstr z128)] := by
  rw [List.replicate_succ']; unfold strsV; rw [List.map_append]; rfl
theorem own_some {w : World} {base : Nat} {e : TypeId} {k n c : Nat} {A : Option Addr} {xs : List Value} (h : w.ownsRow base e k (.slice A n c) n xs) (hn : 1 ≤ n) : ∃ g, A = some ⟨g, 0, none⟩ := by
  rcases h.2 with ⟨h7, _⟩ | ⟨g, _, _, h7, _⟩
  · injection h7 with _ h7; omega
  · injection h7 with h7; exact ⟨g, h7⟩

def NrI (B p : Nat) (w : World) (iv : Value) (wr : World) : Prop :=
  ∃ (j : Nat) (A : Option Addr) (c : Nat), iv = .int .i64 j ∧ j ≤ B ∧ Blk wr p #[.slice A j c, nilv, nilv, .int .i64 0, .int .i64 (-1)] 46 ∧ wr.ownsRow w.heap.size 9 1 (.slice A j c) j (strsV (List.replicate j z128)) ∧ (A = none → c = 0) ∧ Later w wr
theorem NrI.mk {B p : Nat} {w wr : World} (a : Int) (j : Nat) (A : Option Addr) (c : Nat) (ha : a = (j : Int)) (hj : j ≤ B) (h1 : Blk wr p #[.slice A j c, nilv, nilv, .int .i64 0, .int .i64 (-1)] 46) (h2 : wr.ownsRow w.heap.size 9 1 (.slice A j c) j (strsV (List.replicate j z128))) (h3 : A = none → c = 0) (h4 : Later w wr) : NrI B p w (.int .i64 a) wr := by
  subst ha; exact ⟨j, A, c, rfl, hj, h1, h2, h3, h4⟩

set_option maxRecDepth 100000 in
theorem refNew_no (b : Int) (w : World) (h : ¬ (1 ≤ b ∧ b ≤ 4000)) :
    Calls Try.prog 10 #[.int .i64 b] w fun e w' => e = .returned (.tuple #[.pointer none, .bool false]) ∧ w' = w := by
  by_cases h1 : b < 1
  · have d1 : decide (b < 1) = true := by simp; omega
    go_enter Try.func10, Try.ntmps10
    go_wp2_with fail
    exact bodyPost_ret (v := .tuple #[.pointer none, .bool false]) (by simp [results, Try.results10, go_sem]) rfl ⟨rfl, rfl⟩
  · have d1 : decide (b < 1) = false := by simp; omega
    have d2 : decide (4000 < b) = true := by simp; omega
    go_enter Try.func10, Try.ntmps10
    go_wp2_with fail
    exact bodyPost_ret (v := .tuple #[.pointer none, .bool false]) (by simp [results, Try.results10, go_sem]) rfl ⟨rfl, rfl⟩

set_option maxRecDepth 100000 in
set_option maxHeartbeats 4000000 in
theorem refNew_any (B : Nat) (w : World) (hB : 1 ≤ B ∧ B ≤ 4000) :
    Calls Try.prog 10 #[.int .i64 B] w fun e w' => ∃ p gs gn cs cn, e = .returned (.tuple #[dptr p, .bool true]) ∧ RA w' w.heap.size p gs gn B cs cn none 0 (newD B) ∧ Later w w' := by
  have m128 : ∀ W : World, (Instr.makeSlice 31 (.int .i64 128) (.int .i64 128)).run Try.prog W = .ok (.slice (some ⟨W.heap.size, 0, none⟩) 128 128) (W.alloc (.cells (madeCells #[.int .u8 0] 128) 5)) := fun W => run_make_cap 128 128 (Nat.le_refl _) (by omega) W
  have cv : ∀ W : World, (convert 31 9 (.slice (some ⟨W.heap.size, 0, none⟩) 128 128)).run Try.prog (W.alloc (.cells (madeCells #[.int .u8 0] 128) 5)) = .ok (.string (bstr z128)) (W.alloc (.cells (madeCells #[.int .u8 0] 128) 5)) := fun W => conv_str _ 128 128 z128 rfl _ _ (Has.row (Row.made W 5 .u8 128))
  have cvd : ∀ W : World, (convert 31 9 (.slice (some ⟨W.heap.size, 0, none⟩) 128 128)).run Try.prog (W.alloc (.cells (madeCells #[.int .u8 0] 128) 5)).drew = .ok (.string (bstr z128)) (W.alloc (.cells (madeCells #[.int .u8 0] 128) 5)).drew := fun W => conv_str _ 128 128 z128 rfl _ _ (Has.row (Row.made W 5 .u8 128).drew)
  have d1 : decide ((B : Int) < 1) = false := by simp; omega
  have d2 : decide ((4000 : Int) < (B : Int)) = false := by simp; omega
  have hB4 := hB.2
  have HB1 := Lib.hid hB.1
  clear hB
  go_enter Try.func10, Try.ntmps10
  go_wp2_with fail
  obtain ⟨p, hp⟩ : ∃ x, x = w.heap.size := ⟨_, rfl⟩
  have HI := Lib.hid (show NrI B p w (.int .i64 0) (w.alloc (.cells #[nilv, nilv, nilv, .int .i64 0, .int .i64 (-1)] 46)) from NrI.mk 0 0 none 0 rfl (Nat.zero_le _) (Blk.new _ _ _ p hp) (ownG_nil _ _ _ _) (fun _ => rfl) (Later.new _ _))
  have HP := Lib.hid hp
  rw [← hp]
  clear hp
  go_loopw [5] (fun iv wr => NrI B p w iv wr) (fun iv _ => B - (intOf iv).toNat)
  case atStart => exact HI.out
  case round =>
    obtain ⟨j, A, c, rfl, hj, hbp, ho, hn, hl⟩ := hrel
    have HBP := Lib.hid hbp
    have HO := Lib.hid ho
    have HN := Lib.hid hn
    have HL := Lib.hid hl
    by_cases hlt : j < B
    · have k0 : wr.cell? ⟨p, 0, none⟩ = some (.slice A j c) := hbp.cell 0 _ rfl
      have f0 := hbp.frozen 0
      have k0a : (wr.alloc (.cells (madeCells #[.int .u8 0] 128) 5)).cell? ⟨p, 0, none⟩ = some (.slice A j c) := (hbp.later (Later.new _ _)).cell 0 _ rfl
      have k0b : ((wr.alloc (.cells (madeCells #[.int .u8 0] 128) 5)).alloc (.cells #[.string (bstr z128)] 9)).cell? ⟨p, 0, none⟩ = some (.slice A j c) := (hbp.later ((Later.new _ _).alloc _)).cell 0 _ rfl
      have hbs := Lib.hid hl.size
      clear hbp ho hn hl
      go_wp2_with fail
      go_region_law (first
        | (refine step_append_gg (by rfl) (.tmp 23) (.tmp 26) 43 (by rfl) w.heap.size 9 (.string ⟨#[]⟩) 1 16 Try.underlying43 info_st rfl (by decide) _ j (strsV (List.replicate j z128)) (by rfl) (own_later HO.out (by repeat (first | exact Later.refl _ | apply Later.drew | apply Later.alloc))) _ _ 1 1 [.string (bstr z128)] (by rfl) (by first | exact has_newg _ [_] _ _ (by simp) | exact has_newd _ [_] _ _ (by simp)) (by rfl) (by intro u hu; simp at hu; subst hu; rfl) (by unfold maxLen; omega) (by omega) (Nat.le_trans hbs.out (Later.size (by repeat (first | exact Later.refl _ | apply Later.drew | apply Later.alloc)))) ?_; intro A6 c6 w6 o6 g6 b6 n6; have B6 := HBP.out.app HO.out (by repeat (first | exact Later.refl _ | apply Later.drew | apply Later.alloc)) g6 (by decide); have f6 := B6.frozen 0; have k6 := B6.cell 0 _ rfl; have L6 := Lib.hid (Later.of (Below.trans (Later.below (HL.out.trans (by repeat (first | exact Later.refl _ | apply Later.drew | apply Later.alloc)))) b6)); have HO6 := Lib.hid o6; have HB6 := Lib.hid B6; have HN6 := Lib.hid n6; clear o6 g6 b6 n6 B6))
      all_goals
        go_wp2_with fail
        go_roundw
        case rel =>
          have O7 := own_typed (w' := w6.setCell ⟨p, 0, none⟩ (.slice A6 (j + 1) c6)) HO6.out (fun b cs hb => Below.heap_setCell _ _ _ _ (typed_ne hb HB6.out (by decide)))
          rw [← strsV_rep] at O7
          exact NrI.mk _ (j + 1) A6 c6 (by go_num) hlt (HB6.out.set_ 0 _) O7 HN6.out (L6.out.set_ (by rw [HP.out]; exact Nat.le_refl _) _)
        case measure => simp [intOf]; omega
    · obtain rfl : j = B := by omega
      obtain ⟨gs, rfl⟩ := own_some ho HB1.out
      have k0 : wr.cell? ⟨p, 0, none⟩ = some (.slice (some ⟨gs, 0, none⟩) j c) := hbp.cell 0 _ rfl
      have L1 := Later.new wr (.cells ([] : List Value).toArray 9)
      have OW := Lib.hid ((Blk.new wr ([] : List Value).toArray 9 _ rfl).ownG (base := wr.heap.size) (size := 1) (n := 0) (Nat.le_refl _) rfl (by decide))
      have HR := Lib.hid ((Has.own ho).later L1)
      have HL1 := Lib.hid L1
      have BP1 := hbp.later L1
      have k1 : (wr.alloc (.cells ([] : List Value).toArray 9)).cell? ⟨p, 0, none⟩ = some (.slice (some ⟨gs, 0, none⟩) j c) := BP1.cell 0 _ rfl
      have HGS := Lib.hid (ho.lt gs rfl)
      clear hbp ho hn hl L1 BP1
      go_wp2_with (at_builtin; refine wpList_append_rd _ rfl (.tmp 31) (.tmp 35) 43 rfl wr.heap.size 9 (.string ⟨#[]⟩) 16 Try.underlying43 info_st rfl _ 0 [] rfl OW.out _ (some ⟨gs, 0, none⟩) j c (strsV (List.replicate j z128)) rfl HR.out.rd (by rw [strsV_len, List.length_replicate]) (by intro h; cases h) (strsV_one _) (by unfold maxLen; omega) (by omega) ?_ ?_; (exact HL1.out.size); intro A2 c2 w6 o2 g2 b2 n2; simp only [Nat.zero_add, List.nil_append] at o2; have HO2 := Lib.hid o2; have HB6 := Lib.hid (Later.of (HL1.out.below.trans b2)); have HP6 := Lib.hid (HBP.out.later HB6.out); have f6 := HP6.out.frozen 1; have k6 := HP6.out.cell 1 _ rfl; clear o2 g2 b2 n2)
      obtain ⟨gn, rfl⟩ := own_some HO2.out HB1.out
      have hgn := HO2.out.lt gn rfl
      have R6 : RR w6 w.heap.size p gs gn j c c2 none 0 0 (List.replicate j z128) (List.replicate j z128) [] _ := ⟨HP6.out, own_later HO.out HB6.out, own_mono HO2.out HL.out.size, ⟨ownG_nil _ _ _ _, fun _ => rfl⟩, by have := HGS.out.2; omega, by rw [HP.out]; exact Nat.le_refl _⟩
      have R7 := R6.setp 1 (.slice (some ⟨gn, 0, none⟩) j c2)
      have L7 := (HL.out.trans HB6.out).set_ (p := ⟨p, 1, none⟩) (by show w.heap.size ≤ p; rw [HP.out]; exact Nat.le_refl _) (.slice (some ⟨gn, 0, none⟩) j c2)
      exact bodyPost_ret (v := .tuple #[dptr p, .bool true]) (by simp [results, Try.results10, go_sem]) rfl ⟨p, gs, gn, c, c2, rfl, RA.of (d := newD j) (nf := 0) R7 rfl rfl, L7⟩

set_option maxRecDepth 100000 in
theorem refWrite_no (p gn B cn : Nat) (i : Int) (A2 : Option Addr) (n c : Nat) (w : World) (h : w.cell? ⟨p, 1, none⟩ = some (.slice (some ⟨gn, 0, none⟩) B cn)) (ho : ¬ (0 ≤ i ∧ i < B ∧ n = 128)) :
    Calls Try.prog 21 #[dptr p, .int .i64 i, .slice A2 n c] w fun e w' => e = .returned (.bool false) ∧ w' = w := by
  by_cases h1 : i < 0
  · have d1 : decide (i < 0) = true := by simp; omega
    go_enter Try.func21, Try.ntmps21
    go_wp2_with fail
    go_ret
    exact ⟨rfl, rfl⟩
  · have d1 : decide (i < 0) = false := by simp; omega
    by_cases h2 : (B : Int) ≤ i
    · have d2 : decide ((B : Int) ≤ i) = true := by simp; omega
      go_enter Try.func21, Try.ntmps21
      go_wp2_with fail
      go_ret
      exact ⟨rfl, rfl⟩
    · have d2 : decide ((B : Int) ≤ i) = false := by simp; omega
      have hn : ¬ n = 128 := by omega
      have d3 : ((n : Int) != 128) = true := by simp; omega
      go_enter Try.func21, Try.ntmps21
      go_wp2_with fail
      go_ret
      exact ⟨rfl, rfl⟩
set_option maxRecDepth 100000 in
theorem refWrite_stopped (p gn B cn : Nat) (i : Nat) (A2 : Option Addr) (c : Nat) (w : World) (h : w.cell? ⟨p, 1, none⟩ = some (.slice (some ⟨gn, 0, none⟩) B cn)) (h4 : w.cell? ⟨p, 4, none⟩ = some (.int .i64 0)) (hi : i < B) :
    Calls Try.prog 21 #[dptr p, .int .i64 i, .slice A2 128 c] w fun e w' => e = .returned (.bool true) ∧ w' = w := by
  go_enter Try.func21, Try.ntmps21
  go_wp2_with fail
  go_ret
  exact ⟨rfl, rfl⟩
end Go.Proofs.Ytnmldploafpbdaa
