/- The walk of the reference's Decode, encoding 1. -/
import Derived.Test.YtifejanbgobngaaDoorRefPlD
namespace Go.Proofs.YtifejanbgobngaaDoor
open Go.RowKit
set_option linter.unusedVariables false

set_option maxRecDepth 100000 in
theorem refDec_no (en t n : Int) (A : Option Addr) (m c : Nat) (w : World) (h : ¬ ((1 ≤ t ∧ t ≤ 4) ∧ 0 ≤ n ∧ n ≤ 1000)) :
    Calls Tryd.prog 18 #[.int .i64 en, .int .i64 t, .int .i64 n, .slice A m c] w (PutsV none w) := by
  by_cases h1 : n < 0
  · clear h
    go_enter Tryd.func18, Tryd.ntmps18
    go_wp2_with fail
    go_ret2
    exact ⟨.inl ⟨rfl, rfl⟩, Later.refl _⟩
  · by_cases h2 : 1000 < n
    · clear h
      go_enter Tryd.func18, Tryd.ntmps18
      go_wp2_with fail
      go_ret2
      exact ⟨.inl ⟨rfl, rfl⟩, Later.refl _⟩
    · have HT := Lib.hid (show ¬ (1 ≤ t ∧ t ≤ 4) by omega)
      clear h
      go_enter Tryd.func18, Tryd.ntmps18
      go_wp2_with fail
      refine (isType_any t w).mono ?_
      intro e w1 h
      obtain ⟨rfl, L1⟩ := TellsP.no HT.out (SaysP.tells h)
      clear h
      go_wp2_with fail
      go_ret2
      exact ⟨.inl ⟨rfl, rfl⟩, L1⟩


set_option maxRecDepth 100000 in
set_option maxHeartbeats 1000000 in
theorem refDecP_yes (t : Int) (n : Nat) (A : Option Addr) (c : Nat) (b : List Nat) (w : World) (ht : 1 ≤ t ∧ t ≤ 4) (hn : n ≤ 1000) (hr : Has w A (ints .u8 b)) (h256 : ∀ x ∈ b, x < 256) (hb : b.length ≤ 1000000) (hbc : b.length ≤ c) (hc : c ≤ 9223372036854775807) :
    Calls Tryd.prog 18 #[.int .i64 1, .int .i64 t, .int .i64 n, .slice A b.length c] w (PutsV (takeP t n b) w) := by
  have HO1 := Lib.hid (fun l (h : readPQ t n b = some (l, [])) => takeP_readQ (n := n) ht hn h)
  have HO2 := Lib.hid (fun (h : ∀ l, readPQ t n b ≠ some (l, [])) => takeP_notQ (n := n) ht hn h)
  have HQ := Lib.hid (readPQ_is ht n b h256)
  obtain ⟨o, ho⟩ : ∃ o, o = takeP t (n : Int) b := ⟨_, rfl⟩
  rw [← ho] at HO1 HO2 ⊢
  have HT := Lib.hid ht
  have HIT := Lib.hid (fun w => isType_any t w)
  have HRD := Lib.hid (fun w' (l : Later w w') => refReadP_any t n A c b w' ht hn (hr.later l) h256 hb hbc hc)
  have HR := Lib.hid hr
  have HB := Lib.hid h256
  clear ho ht hr h256
  have hn0 : ¬ (n : Int) < 0 := by omega
  have hn1 : ¬ (1000 : Int) < (n : Int) := by omega
  go_enter Tryd.func18, Tryd.ntmps18
  go_wp2_with fail
  refine (HIT.out w).mono ?_
  intro e w1 h
  obtain ⟨rfl, L1⟩ := TellsP.yes HT.out (SaysP.tells h)
  clear h
  go_wp2_with fail
  refine (HRD.out w1 L1).mono ?_
  rintro e w2 ⟨⟨hq, rfl⟩ | ⟨l, r, L, cl, hq, rfl, hl⟩, l2⟩
  · have HN := Lib.hid (HO2.out fun l h => by have h := hq.symm.trans h; cases h)
    have L2 := L1.trans l2
    have HE := Lib.hid (refEncP_any t none 0 [] w2 (by simp) Has.nil_ (fun x hx => by cases hx))
    clear hq L1 l2 HO1 HO2 HQ
    go_wp2_with fail
    refine HE.out.mono ?_
    rintro e w3 ⟨⟨_, rfl⟩ | ⟨l', C, cc, _, rfl, _, _, _, _⟩, l3⟩
    · go_wp2_with fail
      go_ret2
      exact ⟨.inl ⟨HN.out, rfl⟩, L2.trans l3⟩
    · go_wp2_with fail
      go_ret2
      exact ⟨.inl ⟨HN.out, rfl⟩, L2.trans l3⟩
  · have L2 := L1.trans l2
    obtain ⟨hok, h64, hlen, hcat⟩ := HQ.out l r hq
    have hd : ((l.length : Int) != (n : Int)) = false := by simp [hlen]
    have HE := Lib.hid (refEncP_any t L cl l w2 (by omega) hl h64)
    obtain ⟨pb, hpb⟩ := putP_some HT.out hok
    have HPB := Lib.hid hpb
    have HPL := Lib.hid (putP_lt hok h64 hpb)
    have hcase := catP hpb hcat
    have HL := Lib.hid hl
    have HLEN := Lib.hid hlen
    clear hok h64 hlen hpb L1 l2 hcat hl
    go_wp2_with fail
    refine HE.out.mono ?_
    intro e w3 h
    obtain ⟨C, cc, rfl, r3, _, _, _, l3⟩ := h.yes HPB.out
    have L3 := L2.trans l3
    have cv1 := conv_str C pb.length cc pb rfl w3 _ r3
    have cv2 := conv_str A b.length c b rfl w3 _ (HR.out.later L3)
    have HL3 := Lib.hid (HL.out.later l3)
    clear h HE l3 L2 r3
    rcases hcase with ⟨hr0, heq⟩ | ⟨hr0, hne⟩
    · subst hr0
      have HS := Lib.hid (HO1.out l hq)
      subst heq
      clear hq HO1 HO2 HQ
      go_wp2_with fail
      go_ret2
      exact ⟨.inr ⟨l, L, cl, HS.out, rfl, HL3.out⟩, L3⟩
    · have HS := Lib.hid (HO2.out fun l' h => by have h := hq.symm.trans h; cases h; exact hr0 rfl)
      have hbn := bstr_ne HPL.out HB.out hne
      clear hq HO1 HO2 HQ hne
      go_wp2_with fail
      go_ret2
      exact ⟨.inl ⟨HS.out, rfl⟩, L3⟩

theorem refDecP_any (t n : Int) (A : Option Addr) (c : Nat) (b : List Nat) (w : World) (hr : Has w A (ints .u8 b)) (h256 : ∀ x ∈ b, x < 256) (hb : b.length ≤ 1000000) (hbc : b.length ≤ c) (hc : c ≤ 9223372036854775807) :
    Calls Tryd.prog 18 #[.int .i64 1, .int .i64 t, .int .i64 n, .slice A b.length c] w (PutsV (takeP t n b) w) := by
  by_cases h : (1 ≤ t ∧ t ≤ 4) ∧ 0 ≤ n ∧ n ≤ 1000
  · obtain ⟨m, rfl⟩ : ∃ m : Nat, n = (m : Int) := ⟨n.toNat, by omega⟩
    exact refDecP_yes t m A c b w h.1 (by omega) hr h256 hb hbc hc
  · rw [takeP_bad h]; exact refDec_no 1 t n A _ c w h
end Go.Proofs.YtifejanbgobngaaDoor
